import Derived.Test.YtpkobgnbjmefnaaDoorWrA
namespace Go.Proofs.YtpkobgnbjmefnaaDoor
open Go.RowKit
set_option linter.unusedVariables false
set_option maxRecDepth 100000

set_option maxHeartbeats 2000000 in
theorem written_1 (w0 w : World) (p : Nat) (v : Value) (l : List Nat) (x : Item) (h : WOk w w0.heap.size p v l) (bel : Below w0.heap.size w0 w) (hk : x.kind = 1) (hv : x.v < 18446744073709551616) (hl : l.length ≤ 140000000000000) :
    Calls Tryd.prog 8 #[.pointer (some ⟨p, 0, none⟩), .agg #[.int .i64 x.kind, .int .u64 (x.v : Int), .int .i64 x.n, .slice x.ao x.b.length x.cap, .string x.s]] w fun e w' => ∃ ao' cap' v', e = .returned (.tuple #[.slice ao' x.wr.length cap', .bool true]) ∧ w'.ownsRow w.heap.size 5 1 (.slice ao' x.wr.length cap') x.wr.length (x.wr.map bv) ∧ WPost w w' w0.heap.size p v v' (l ++ x.wr) ∧ Sep v' (.slice ao' x.wr.length cap') := by
  have h0A : WPost w (w.alloc (.cells #[.int .i64 x.kind, .int .u64 (x.v : Int), .int .i64 x.n, .slice x.ao x.b.length x.cap, .string x.s] 31)) w0.heap.size p v v l := WPost.ofBelow h ((Below.refl _ _).alloc (Nat.le_refl _) _)
  have bA : Below w0.heap.size w0 (w.alloc (.cells #[.int .i64 x.kind, .int .u64 (x.v : Int), .int .i64 x.n, .slice x.ao x.b.length x.cap, .string x.s] 31)) := bel.alloc bel.size _
  have hz := bel.size
  have HW : Hid (x.wr = bigTo x.v 1 1) := by show x.wr = _; simp [Item.wr, hk]
  have HC : Hid (Calls Tryd.prog 23 #[.pointer (some ⟨p, 0, none⟩), .int .u8 ((x.v : Int) % 256)] (w.alloc (.cells #[.int .i64 x.kind, .int .u64 (x.v : Int), .int .i64 x.n, .slice x.ao x.b.length x.cap, .string x.s] 31)) fun e w' => e = .returned (.tuple #[]) ∧ ∃ v', WPost w w' w0.heap.size p v v' (l ++ bigTo x.v 1 1) ∧ w'.cell? ⟨w.heap.size, 1, none⟩ = some (.int .u64 (x.v : Int))) := by
    have := wu8_any w0.heap.size p (x.v % 256) v l _ h0A.ok (Nat.mod_lt _ (by decide)) (by omega) bA.size
    rw [show x.v % 256 = x.v % 256 ^ 1 from rfl, bigTo_mod] at this
    rw [show ((x.v % 256 ^ 1 : Nat) : Int) = (x.v : Int) % 256 by omega] at this
    refine this.mono fun e w' hh => ⟨hh.1, ?_⟩
    obtain ⟨v', hv'⟩ := hh.2
    exact ⟨v', h0A.trans hv', by rw [blk_at (loc_kept h hv'.kept)]; rfl⟩
  have HB : Hid (∀ W, Calls Tryd.prog 37 #[.int .u64 (x.v : Int), .int .i64 1] W fun e w' => e = .returned (.slice (some ⟨W.heap.size, 0, none⟩) 1 1) ∧ w'.ownsRow W.heap.size 5 1 (.slice (some ⟨W.heap.size, 0, none⟩) 1 1) 1 ((bigTo x.v 1 1).map bv) ∧ Below W.heap.size W w') := fun W => rbig_any x.v 1 W hv (by decide)
  rw [HW.out, bigTo_length]
  clear h bel h0A bA
  generalize bigTo x.v 1 1 = m at *
  have t1 : (x.kind == 1) = true := by rw [beq_iff_eq]; omega
  clear hk
  go_enter Tryd.func8, Tryd.ntmps8
  go_wp2_with fail
  refine HC.out.mono ?_
  rintro e w1 ⟨rfl, v1, hp1, y1⟩
  have HP : Hid (WPost w w1 w0.heap.size p v v1 (l ++ m)) := hp1
  clear hp1
  go_wp2_with fail
  refine (HB.out w1).mono ?_
  rintro e w2 ⟨rfl, ho, hb⟩
  have HE : Hid (w2.ownsRow w.heap.size 5 1 (.slice (some ⟨w1.heap.size, 0, none⟩) 1 1) 1 (m.map bv) ∧ WPost w w2 w0.heap.size p v v1 (l ++ m) ∧ Sep v1 (.slice (some ⟨w1.heap.size, 0, none⟩) 1 1)) := wr_end HP.out ho hb
  clear ho hb
  go_wp2
  go_ret2
  exact ⟨_, _, v1, rfl, HE.out.1, HE.out.2.1, HE.out.2.2⟩

set_option maxHeartbeats 2000000 in
theorem written_2 (w0 w : World) (p : Nat) (v : Value) (l : List Nat) (x : Item) (h : WOk w w0.heap.size p v l) (bel : Below w0.heap.size w0 w) (hk : x.kind = 2) (hv : x.v < 18446744073709551616) (hl : l.length ≤ 140000000000000) :
    Calls Tryd.prog 8 #[.pointer (some ⟨p, 0, none⟩), .agg #[.int .i64 x.kind, .int .u64 (x.v : Int), .int .i64 x.n, .slice x.ao x.b.length x.cap, .string x.s]] w fun e w' => ∃ ao' cap' v', e = .returned (.tuple #[.slice ao' x.wr.length cap', .bool true]) ∧ w'.ownsRow w.heap.size 5 1 (.slice ao' x.wr.length cap') x.wr.length (x.wr.map bv) ∧ WPost w w' w0.heap.size p v v' (l ++ x.wr) ∧ Sep v' (.slice ao' x.wr.length cap') := by
  have h0A : WPost w (w.alloc (.cells #[.int .i64 x.kind, .int .u64 (x.v : Int), .int .i64 x.n, .slice x.ao x.b.length x.cap, .string x.s] 31)) w0.heap.size p v v l := WPost.ofBelow h ((Below.refl _ _).alloc (Nat.le_refl _) _)
  have bA : Below w0.heap.size w0 (w.alloc (.cells #[.int .i64 x.kind, .int .u64 (x.v : Int), .int .i64 x.n, .slice x.ao x.b.length x.cap, .string x.s] 31)) := bel.alloc bel.size _
  have hz := bel.size
  have HW : Hid (x.wr = bigTo x.v 2 2) := by show x.wr = _; simp [Item.wr, hk]
  have HC : Hid (Calls Tryd.prog 24 #[.pointer (some ⟨p, 0, none⟩), .int .u16 ((x.v : Int) % 65536)] (w.alloc (.cells #[.int .i64 x.kind, .int .u64 (x.v : Int), .int .i64 x.n, .slice x.ao x.b.length x.cap, .string x.s] 31)) fun e w' => e = .returned (.tuple #[]) ∧ ∃ v', WPost w w' w0.heap.size p v v' (l ++ bigTo x.v 2 2) ∧ w'.cell? ⟨w.heap.size, 1, none⟩ = some (.int .u64 (x.v : Int))) := by
    have := wu16_any w0.heap.size p (x.v % 65536) v l _ h0A.ok (Nat.mod_lt _ (by decide)) (by omega) bA.size
    rw [show x.v % 65536 = x.v % 256 ^ 2 from rfl, bigTo_mod] at this
    rw [show ((x.v % 256 ^ 2 : Nat) : Int) = (x.v : Int) % 65536 by omega] at this
    refine this.mono fun e w' hh => ⟨hh.1, ?_⟩
    obtain ⟨v', hv'⟩ := hh.2
    exact ⟨v', h0A.trans hv', by rw [blk_at (loc_kept h hv'.kept)]; rfl⟩
  have HB : Hid (∀ W, Calls Tryd.prog 37 #[.int .u64 (x.v : Int), .int .i64 2] W fun e w' => e = .returned (.slice (some ⟨W.heap.size, 0, none⟩) 2 2) ∧ w'.ownsRow W.heap.size 5 1 (.slice (some ⟨W.heap.size, 0, none⟩) 2 2) 2 ((bigTo x.v 2 2).map bv) ∧ Below W.heap.size W w') := fun W => rbig_any x.v 2 W hv (by decide)
  rw [HW.out, bigTo_length]
  clear h bel h0A bA
  generalize bigTo x.v 2 2 = m at *
  have t1 : (x.kind == 1) = false := by rw [beq_eq_false_iff_ne]; omega
  have t2 : (x.kind == 2) = true := by rw [beq_iff_eq]; omega
  clear hk
  have hwr : IntKind.u16.wrap (x.v : Int) = (x.v : Int) % 65536 := IntKind.wrap_u16 _
  go_enter Tryd.func8, Tryd.ntmps8
  go_wp2_with fail
  refine HC.out.mono ?_
  rintro e w1 ⟨rfl, v1, hp1, y1⟩
  have HP : Hid (WPost w w1 w0.heap.size p v v1 (l ++ m)) := hp1
  clear hp1
  go_wp2_with fail
  refine (HB.out w1).mono ?_
  rintro e w2 ⟨rfl, ho, hb⟩
  have HE : Hid (w2.ownsRow w.heap.size 5 1 (.slice (some ⟨w1.heap.size, 0, none⟩) 2 2) 2 (m.map bv) ∧ WPost w w2 w0.heap.size p v v1 (l ++ m) ∧ Sep v1 (.slice (some ⟨w1.heap.size, 0, none⟩) 2 2)) := wr_end HP.out ho hb
  clear ho hb
  go_wp2
  go_ret2
  exact ⟨_, _, v1, rfl, HE.out.1, HE.out.2.1, HE.out.2.2⟩

set_option maxHeartbeats 2000000 in
theorem written_3 (w0 w : World) (p : Nat) (v : Value) (l : List Nat) (x : Item) (h : WOk w w0.heap.size p v l) (bel : Below w0.heap.size w0 w) (hk : x.kind = 3) (hv : x.v < 18446744073709551616) (hl : l.length ≤ 140000000000000) :
    Calls Tryd.prog 8 #[.pointer (some ⟨p, 0, none⟩), .agg #[.int .i64 x.kind, .int .u64 (x.v : Int), .int .i64 x.n, .slice x.ao x.b.length x.cap, .string x.s]] w fun e w' => ∃ ao' cap' v', e = .returned (.tuple #[.slice ao' x.wr.length cap', .bool true]) ∧ w'.ownsRow w.heap.size 5 1 (.slice ao' x.wr.length cap') x.wr.length (x.wr.map bv) ∧ WPost w w' w0.heap.size p v v' (l ++ x.wr) ∧ Sep v' (.slice ao' x.wr.length cap') := by
  have h0A : WPost w (w.alloc (.cells #[.int .i64 x.kind, .int .u64 (x.v : Int), .int .i64 x.n, .slice x.ao x.b.length x.cap, .string x.s] 31)) w0.heap.size p v v l := WPost.ofBelow h ((Below.refl _ _).alloc (Nat.le_refl _) _)
  have bA : Below w0.heap.size w0 (w.alloc (.cells #[.int .i64 x.kind, .int .u64 (x.v : Int), .int .i64 x.n, .slice x.ao x.b.length x.cap, .string x.s] 31)) := bel.alloc bel.size _
  have hz := bel.size
  have HW : Hid (x.wr = bigTo x.v 4 4) := by show x.wr = _; simp [Item.wr, hk]
  have HC : Hid (Calls Tryd.prog 25 #[.pointer (some ⟨p, 0, none⟩), .int .u32 ((x.v : Int) % 4294967296)] (w.alloc (.cells #[.int .i64 x.kind, .int .u64 (x.v : Int), .int .i64 x.n, .slice x.ao x.b.length x.cap, .string x.s] 31)) fun e w' => e = .returned (.tuple #[]) ∧ ∃ v', WPost w w' w0.heap.size p v v' (l ++ bigTo x.v 4 4) ∧ w'.cell? ⟨w.heap.size, 1, none⟩ = some (.int .u64 (x.v : Int))) := by
    have := wu32_any w0.heap.size p (x.v % 4294967296) v l _ h0A.ok (Nat.mod_lt _ (by decide)) (by omega) bA.size
    rw [show x.v % 4294967296 = x.v % 256 ^ 4 from rfl, bigTo_mod] at this
    rw [show ((x.v % 256 ^ 4 : Nat) : Int) = (x.v : Int) % 4294967296 by omega] at this
    refine this.mono fun e w' hh => ⟨hh.1, ?_⟩
    obtain ⟨v', hv'⟩ := hh.2
    exact ⟨v', h0A.trans hv', by rw [blk_at (loc_kept h hv'.kept)]; rfl⟩
  have HB : Hid (∀ W, Calls Tryd.prog 37 #[.int .u64 (x.v : Int), .int .i64 4] W fun e w' => e = .returned (.slice (some ⟨W.heap.size, 0, none⟩) 4 4) ∧ w'.ownsRow W.heap.size 5 1 (.slice (some ⟨W.heap.size, 0, none⟩) 4 4) 4 ((bigTo x.v 4 4).map bv) ∧ Below W.heap.size W w') := fun W => rbig_any x.v 4 W hv (by decide)
  rw [HW.out, bigTo_length]
  clear h bel h0A bA
  generalize bigTo x.v 4 4 = m at *
  have t1 : (x.kind == 1) = false := by rw [beq_eq_false_iff_ne]; omega
  have t2 : (x.kind == 2) = false := by rw [beq_eq_false_iff_ne]; omega
  have t3 : (x.kind == 3) = true := by rw [beq_iff_eq]; omega
  clear hk
  go_enter Tryd.func8, Tryd.ntmps8
  go_wp2_with fail
  refine HC.out.mono ?_
  rintro e w1 ⟨rfl, v1, hp1, y1⟩
  have HP : Hid (WPost w w1 w0.heap.size p v v1 (l ++ m)) := hp1
  clear hp1
  go_wp2_with fail
  refine (HB.out w1).mono ?_
  rintro e w2 ⟨rfl, ho, hb⟩
  have HE : Hid (w2.ownsRow w.heap.size 5 1 (.slice (some ⟨w1.heap.size, 0, none⟩) 4 4) 4 (m.map bv) ∧ WPost w w2 w0.heap.size p v v1 (l ++ m) ∧ Sep v1 (.slice (some ⟨w1.heap.size, 0, none⟩) 4 4)) := wr_end HP.out ho hb
  clear ho hb
  go_wp2
  go_ret2
  exact ⟨_, _, v1, rfl, HE.out.1, HE.out.2.1, HE.out.2.2⟩

set_option maxHeartbeats 2000000 in
theorem written_4 (w0 w : World) (p : Nat) (v : Value) (l : List Nat) (x : Item) (h : WOk w w0.heap.size p v l) (bel : Below w0.heap.size w0 w) (hk : x.kind = 4) (hv : x.v < 18446744073709551616) (hl : l.length ≤ 140000000000000) :
    Calls Tryd.prog 8 #[.pointer (some ⟨p, 0, none⟩), .agg #[.int .i64 x.kind, .int .u64 (x.v : Int), .int .i64 x.n, .slice x.ao x.b.length x.cap, .string x.s]] w fun e w' => ∃ ao' cap' v', e = .returned (.tuple #[.slice ao' x.wr.length cap', .bool true]) ∧ w'.ownsRow w.heap.size 5 1 (.slice ao' x.wr.length cap') x.wr.length (x.wr.map bv) ∧ WPost w w' w0.heap.size p v v' (l ++ x.wr) ∧ Sep v' (.slice ao' x.wr.length cap') := by
  have h0A : WPost w (w.alloc (.cells #[.int .i64 x.kind, .int .u64 (x.v : Int), .int .i64 x.n, .slice x.ao x.b.length x.cap, .string x.s] 31)) w0.heap.size p v v l := WPost.ofBelow h ((Below.refl _ _).alloc (Nat.le_refl _) _)
  have bA : Below w0.heap.size w0 (w.alloc (.cells #[.int .i64 x.kind, .int .u64 (x.v : Int), .int .i64 x.n, .slice x.ao x.b.length x.cap, .string x.s] 31)) := bel.alloc bel.size _
  have hz := bel.size
  have HW : Hid (x.wr = bigTo x.v 8 8) := by show x.wr = _; simp [Item.wr, hk]
  have HC : Hid (Calls Tryd.prog 26 #[.pointer (some ⟨p, 0, none⟩), .int .u64 (x.v : Int)] (w.alloc (.cells #[.int .i64 x.kind, .int .u64 (x.v : Int), .int .i64 x.n, .slice x.ao x.b.length x.cap, .string x.s] 31)) fun e w' => e = .returned (.tuple #[]) ∧ ∃ v', WPost w w' w0.heap.size p v v' (l ++ bigTo x.v 8 8) ∧ w'.cell? ⟨w.heap.size, 1, none⟩ = some (.int .u64 (x.v : Int))) := by
    refine (wu64_any w0.heap.size p x.v v l _ h0A.ok hv (by omega) bA.size).mono fun e w' hh => ⟨hh.1, ?_⟩
    obtain ⟨v', hv'⟩ := hh.2
    exact ⟨v', h0A.trans hv', by rw [blk_at (loc_kept h hv'.kept)]; rfl⟩
  have HB : Hid (∀ W, Calls Tryd.prog 37 #[.int .u64 (x.v : Int), .int .i64 8] W fun e w' => e = .returned (.slice (some ⟨W.heap.size, 0, none⟩) 8 8) ∧ w'.ownsRow W.heap.size 5 1 (.slice (some ⟨W.heap.size, 0, none⟩) 8 8) 8 ((bigTo x.v 8 8).map bv) ∧ Below W.heap.size W w') := fun W => rbig_any x.v 8 W hv (by decide)
  rw [HW.out, bigTo_length]
  clear h bel h0A bA
  generalize bigTo x.v 8 8 = m at *
  have t1 : (x.kind == 1) = false := by rw [beq_eq_false_iff_ne]; omega
  have t2 : (x.kind == 2) = false := by rw [beq_eq_false_iff_ne]; omega
  have t3 : (x.kind == 3) = false := by rw [beq_eq_false_iff_ne]; omega
  have t4 : (x.kind == 4) = true := by rw [beq_iff_eq]; omega
  clear hk
  go_enter Tryd.func8, Tryd.ntmps8
  go_wp2_with fail
  refine HC.out.mono ?_
  rintro e w1 ⟨rfl, v1, hp1, y1⟩
  have HP : Hid (WPost w w1 w0.heap.size p v v1 (l ++ m)) := hp1
  clear hp1
  go_wp2_with fail
  refine (HB.out w1).mono ?_
  rintro e w2 ⟨rfl, ho, hb⟩
  have HE : Hid (w2.ownsRow w.heap.size 5 1 (.slice (some ⟨w1.heap.size, 0, none⟩) 8 8) 8 (m.map bv) ∧ WPost w w2 w0.heap.size p v v1 (l ++ m) ∧ Sep v1 (.slice (some ⟨w1.heap.size, 0, none⟩) 8 8)) := wr_end HP.out ho hb
  clear ho hb
  go_wp2
  go_ret2
  exact ⟨_, _, v1, rfl, HE.out.1, HE.out.2.1, HE.out.2.2⟩
end Go.Proofs.YtpkobgnbjmefnaaDoor
