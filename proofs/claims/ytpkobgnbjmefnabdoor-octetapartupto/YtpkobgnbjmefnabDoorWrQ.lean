import Derived.Test.YtpkobgnbjmefnabDoorWrA
namespace Go.Proofs.YtpkobgnbjmefnabDoor
open Go.RowKit
set_option linter.unusedVariables false
set_option maxRecDepth 100000

set_option maxHeartbeats 2000000 in
theorem written_1 (w0 w : World) (p : Nat) (v : Value) (l : List Nat) (x : Item) (h : WOk w w0.heap.size p v l) (bel : Below w0.heap.size w0 w) (hk : x.kind = 1) (hv : x.v < 18446744073709551616) (hl : l.length ≤ 140000000000000) :
    Calls Tryd.prog 19 #[.pointer (some ⟨p, 0, none⟩), .agg #[.int .i64 x.kind, .int .u64 (x.v : Int), .int .i64 x.n, .slice x.ao x.b.length x.cap, .string x.s]] w fun e w' => ∃ ao' cap' v', e = .returned (.tuple #[.slice ao' x.wr.length cap', .bool true]) ∧ w'.ownsRow w.heap.size 5 1 (.slice ao' x.wr.length cap') x.wr.length (x.wr.map bv) ∧ WPost w w' w0.heap.size p v v' (l ++ x.wr) ∧ Sep v' (.slice ao' x.wr.length cap') := by
  have h0A : WPost w (w.alloc (.cells #[.int .i64 x.kind, .int .u64 (x.v : Int), .int .i64 x.n, .slice x.ao x.b.length x.cap, .string x.s] 52)) w0.heap.size p v v l := WPost.ofBelow h ((Below.refl _ _).alloc (Nat.le_refl _) _)
  have bA : Below w0.heap.size w0 (w.alloc (.cells #[.int .i64 x.kind, .int .u64 (x.v : Int), .int .i64 x.n, .slice x.ao x.b.length x.cap, .string x.s] 52)) := bel.alloc bel.size _
  have hz := bel.size
  have HW : Hid (x.wr = bigTo x.v 1 1) := by show x.wr = _; simp [Item.wr, hk]
  have HC : Hid (Calls Tryd.prog 41 #[.pointer (some ⟨p, 0, none⟩), .int .u8 ((x.v : Int) % 256)] (w.alloc (.cells #[.int .i64 x.kind, .int .u64 (x.v : Int), .int .i64 x.n, .slice x.ao x.b.length x.cap, .string x.s] 52)) fun e w' => e = .returned (.tuple #[]) ∧ ∃ v', WPost w w' w0.heap.size p v v' (l ++ bigTo x.v 1 1) ∧ w'.cell? ⟨w.heap.size, 1, none⟩ = some (.int .u64 (x.v : Int))) := by
    have := wu8_any w0.heap.size p (x.v % 256) v l _ h0A.ok (Nat.mod_lt _ (by decide)) (by omega) bA.size
    rw [show x.v % 256 = x.v % 256 ^ 1 from rfl, bigTo_mod] at this
    rw [show ((x.v % 256 ^ 1 : Nat) : Int) = (x.v : Int) % 256 by omega] at this
    refine this.mono fun e w' hh => ⟨hh.1, ?_⟩
    obtain ⟨v', hv'⟩ := hh.2
    exact ⟨v', h0A.trans hv', by rw [blk_at (loc_kept h hv'.kept)]; rfl⟩
  have HB : Hid (∀ W, Calls Tryd.prog 42 #[.int .u64 (x.v : Int), .int .i64 1] W fun e w' => e = .returned (.slice (some ⟨W.heap.size, 0, none⟩) 1 1) ∧ w'.ownsRow W.heap.size 5 1 (.slice (some ⟨W.heap.size, 0, none⟩) 1 1) 1 ((bigTo x.v 1 1).map bv) ∧ Below W.heap.size W w') := fun W => rbig_any x.v 1 W hv (by decide)
  rw [HW.out, bigTo_length]
  clear h bel h0A bA
  generalize bigTo x.v 1 1 = m at *
  have t1 : (x.kind == 1) = true := by rw [beq_iff_eq]; omega
  clear hk
  go_enter Tryd.func19, Tryd.ntmps19
  go_wp2_with fail
  refine HC.out.mono ?_
  rintro e w1 ⟨rfl, v1, hp1, y1⟩
  have HP : Hid (WPost w w1 w0.heap.size p v v1 (l ++ m)) := hp1
  clear hp1
  go_wp2_with fail
  refine (HB.out w1).mono ?_
  rintro e w2 ⟨rfl, ho, hb⟩
  have HE : Hid (w2.ownsRow w.heap.size 5 1 (.slice (some ⟨w1.heap.size, 0, none⟩) 1 1) 1 (m.map bv) ∧ WPost w w2 w0.heap.size p v v1 (l ++ m) ∧ Sep v1 (.slice (some ⟨w1.heap.size, 0, none⟩) 1 1)) := wr_end HP.out ho hb
  clear ho hb
  go_wp2
  go_ret2
  exact ⟨_, _, v1, rfl, HE.out.1, HE.out.2.1, HE.out.2.2⟩

set_option maxHeartbeats 2000000 in
theorem written_2 (w0 w : World) (p : Nat) (v : Value) (l : List Nat) (x : Item) (h : WOk w w0.heap.size p v l) (bel : Below w0.heap.size w0 w) (hk : x.kind = 2) (hv : x.v < 18446744073709551616) (hl : l.length ≤ 140000000000000) :
    Calls Tryd.prog 19 #[.pointer (some ⟨p, 0, none⟩), .agg #[.int .i64 x.kind, .int .u64 (x.v : Int), .int .i64 x.n, .slice x.ao x.b.length x.cap, .string x.s]] w fun e w' => ∃ ao' cap' v', e = .returned (.tuple #[.slice ao' x.wr.length cap', .bool true]) ∧ w'.ownsRow w.heap.size 5 1 (.slice ao' x.wr.length cap') x.wr.length (x.wr.map bv) ∧ WPost w w' w0.heap.size p v v' (l ++ x.wr) ∧ Sep v' (.slice ao' x.wr.length cap') := by
  have h0A : WPost w (w.alloc (.cells #[.int .i64 x.kind, .int .u64 (x.v : Int), .int .i64 x.n, .slice x.ao x.b.length x.cap, .string x.s] 52)) w0.heap.size p v v l := WPost.ofBelow h ((Below.refl _ _).alloc (Nat.le_refl _) _)
  have bA : Below w0.heap.size w0 (w.alloc (.cells #[.int .i64 x.kind, .int .u64 (x.v : Int), .int .i64 x.n, .slice x.ao x.b.length x.cap, .string x.s] 52)) := bel.alloc bel.size _
  have hz := bel.size
  have HW : Hid (x.wr = bigTo x.v 2 2) := by show x.wr = _; simp [Item.wr, hk]
  have HC : Hid (Calls Tryd.prog 43 #[.pointer (some ⟨p, 0, none⟩), .int .u16 ((x.v : Int) % 65536)] (w.alloc (.cells #[.int .i64 x.kind, .int .u64 (x.v : Int), .int .i64 x.n, .slice x.ao x.b.length x.cap, .string x.s] 52)) fun e w' => e = .returned (.tuple #[]) ∧ ∃ v', WPost w w' w0.heap.size p v v' (l ++ bigTo x.v 2 2) ∧ w'.cell? ⟨w.heap.size, 1, none⟩ = some (.int .u64 (x.v : Int))) := by
    have := wu16_any w0.heap.size p (x.v % 65536) v l _ h0A.ok (Nat.mod_lt _ (by decide)) (by omega) bA.size
    rw [show x.v % 65536 = x.v % 256 ^ 2 from rfl, bigTo_mod] at this
    rw [show ((x.v % 256 ^ 2 : Nat) : Int) = (x.v : Int) % 65536 by omega] at this
    refine this.mono fun e w' hh => ⟨hh.1, ?_⟩
    obtain ⟨v', hv'⟩ := hh.2
    exact ⟨v', h0A.trans hv', by rw [blk_at (loc_kept h hv'.kept)]; rfl⟩
  have HB : Hid (∀ W, Calls Tryd.prog 42 #[.int .u64 (x.v : Int), .int .i64 2] W fun e w' => e = .returned (.slice (some ⟨W.heap.size, 0, none⟩) 2 2) ∧ w'.ownsRow W.heap.size 5 1 (.slice (some ⟨W.heap.size, 0, none⟩) 2 2) 2 ((bigTo x.v 2 2).map bv) ∧ Below W.heap.size W w') := fun W => rbig_any x.v 2 W hv (by decide)
  rw [HW.out, bigTo_length]
  clear h bel h0A bA
  generalize bigTo x.v 2 2 = m at *
  have t1 : (x.kind == 1) = false := by rw [beq_eq_false_iff_ne]; omega
  have t2 : (x.kind == 2) = true := by rw [beq_iff_eq]; omega
  clear hk
  have hwr : IntKind.u16.wrap (x.v : Int) = (x.v : Int) % 65536 := IntKind.wrap_u16 _
  go_enter Tryd.func19, Tryd.ntmps19
  go_wp2_with fail
  refine HC.out.mono ?_
  rintro e w1 ⟨rfl, v1, hp1, y1⟩
  have HP : Hid (WPost w w1 w0.heap.size p v v1 (l ++ m)) := hp1
  clear hp1
  go_wp2_with fail
  refine (HB.out w1).mono ?_
  rintro e w2 ⟨rfl, ho, hb⟩
  have HE : Hid (w2.ownsRow w.heap.size 5 1 (.slice (some ⟨w1.heap.size, 0, none⟩) 2 2) 2 (m.map bv) ∧ WPost w w2 w0.heap.size p v v1 (l ++ m) ∧ Sep v1 (.slice (some ⟨w1.heap.size, 0, none⟩) 2 2)) := wr_end HP.out ho hb
  clear ho hb
  go_wp2
  go_ret2
  exact ⟨_, _, v1, rfl, HE.out.1, HE.out.2.1, HE.out.2.2⟩

set_option maxHeartbeats 2000000 in
theorem written_3 (w0 w : World) (p : Nat) (v : Value) (l : List Nat) (x : Item) (h : WOk w w0.heap.size p v l) (bel : Below w0.heap.size w0 w) (hk : x.kind = 3) (hv : x.v < 18446744073709551616) (hl : l.length ≤ 140000000000000) :
    Calls Tryd.prog 19 #[.pointer (some ⟨p, 0, none⟩), .agg #[.int .i64 x.kind, .int .u64 (x.v : Int), .int .i64 x.n, .slice x.ao x.b.length x.cap, .string x.s]] w fun e w' => ∃ ao' cap' v', e = .returned (.tuple #[.slice ao' x.wr.length cap', .bool true]) ∧ w'.ownsRow w.heap.size 5 1 (.slice ao' x.wr.length cap') x.wr.length (x.wr.map bv) ∧ WPost w w' w0.heap.size p v v' (l ++ x.wr) ∧ Sep v' (.slice ao' x.wr.length cap') := by
  have h0A : WPost w (w.alloc (.cells #[.int .i64 x.kind, .int .u64 (x.v : Int), .int .i64 x.n, .slice x.ao x.b.length x.cap, .string x.s] 52)) w0.heap.size p v v l := WPost.ofBelow h ((Below.refl _ _).alloc (Nat.le_refl _) _)
  have bA : Below w0.heap.size w0 (w.alloc (.cells #[.int .i64 x.kind, .int .u64 (x.v : Int), .int .i64 x.n, .slice x.ao x.b.length x.cap, .string x.s] 52)) := bel.alloc bel.size _
  have hz := bel.size
  have HW : Hid (x.wr = bigTo x.v 4 4) := by show x.wr = _; simp [Item.wr, hk]
  have HC : Hid (Calls Tryd.prog 44 #[.pointer (some ⟨p, 0, none⟩), .int .u32 ((x.v : Int) % 4294967296)] (w.alloc (.cells #[.int .i64 x.kind, .int .u64 (x.v : Int), .int .i64 x.n, .slice x.ao x.b.length x.cap, .string x.s] 52)) fun e w' => e = .returned (.tuple #[]) ∧ ∃ v', WPost w w' w0.heap.size p v v' (l ++ bigTo x.v 4 4) ∧ w'.cell? ⟨w.heap.size, 1, none⟩ = some (.int .u64 (x.v : Int))) := by
    have := wu32_any w0.heap.size p (x.v % 4294967296) v l _ h0A.ok (Nat.mod_lt _ (by decide)) (by omega) bA.size
    rw [show x.v % 4294967296 = x.v % 256 ^ 4 from rfl, bigTo_mod] at this
    rw [show ((x.v % 256 ^ 4 : Nat) : Int) = (x.v : Int) % 4294967296 by omega] at this
    refine this.mono fun e w' hh => ⟨hh.1, ?_⟩
    obtain ⟨v', hv'⟩ := hh.2
    exact ⟨v', h0A.trans hv', by rw [blk_at (loc_kept h hv'.kept)]; rfl⟩
  have HB : Hid (∀ W, Calls Tryd.prog 42 #[.int .u64 (x.v : Int), .int .i64 4] W fun e w' => e = .returned (.slice (some ⟨W.heap.size, 0, none⟩) 4 4) ∧ w'.ownsRow W.heap.size 5 1 (.slice (some ⟨W.heap.size, 0, none⟩) 4 4) 4 ((bigTo x.v 4 4).map bv) ∧ Below W.heap.size W w') := fun W => rbig_any x.v 4 W hv (by decide)
  rw [HW.out, bigTo_length]
  clear h bel h0A bA
  generalize bigTo x.v 4 4 = m at *
  have t1 : (x.kind == 1) = false := by rw [beq_eq_false_iff_ne]; omega
  have t2 : (x.kind == 2) = false := by rw [beq_eq_false_iff_ne]; omega
  have t3 : (x.kind == 3) = true := by rw [beq_iff_eq]; omega
  clear hk
  go_enter Tryd.func19, Tryd.ntmps19
  go_wp2_with fail
  refine HC.out.mono ?_
  rintro e w1 ⟨rfl, v1, hp1, y1⟩
  have HP : Hid (WPost w w1 w0.heap.size p v v1 (l ++ m)) := hp1
  clear hp1
  go_wp2_with fail
  refine (HB.out w1).mono ?_
  rintro e w2 ⟨rfl, ho, hb⟩
  have HE : Hid (w2.ownsRow w.heap.size 5 1 (.slice (some ⟨w1.heap.size, 0, none⟩) 4 4) 4 (m.map bv) ∧ WPost w w2 w0.heap.size p v v1 (l ++ m) ∧ Sep v1 (.slice (some ⟨w1.heap.size, 0, none⟩) 4 4)) := wr_end HP.out ho hb
  clear ho hb
  go_wp2
  go_ret2
  exact ⟨_, _, v1, rfl, HE.out.1, HE.out.2.1, HE.out.2.2⟩

set_option maxHeartbeats 2000000 in
theorem written_4 (w0 w : World) (p : Nat) (v : Value) (l : List Nat) (x : Item) (h : WOk w w0.heap.size p v l) (bel : Below w0.heap.size w0 w) (hk : x.kind = 4) (hv : x.v < 18446744073709551616) (hl : l.length ≤ 140000000000000) :
    Calls Tryd.prog 19 #[.pointer (some ⟨p, 0, none⟩), .agg #[.int .i64 x.kind, .int .u64 (x.v : Int), .int .i64 x.n, .slice x.ao x.b.length x.cap, .string x.s]] w fun e w' => ∃ ao' cap' v', e = .returned (.tuple #[.slice ao' x.wr.length cap', .bool true]) ∧ w'.ownsRow w.heap.size 5 1 (.slice ao' x.wr.length cap') x.wr.length (x.wr.map bv) ∧ WPost w w' w0.heap.size p v v' (l ++ x.wr) ∧ Sep v' (.slice ao' x.wr.length cap') := by
  have h0A : WPost w (w.alloc (.cells #[.int .i64 x.kind, .int .u64 (x.v : Int), .int .i64 x.n, .slice x.ao x.b.length x.cap, .string x.s] 52)) w0.heap.size p v v l := WPost.ofBelow h ((Below.refl _ _).alloc (Nat.le_refl _) _)
  have bA : Below w0.heap.size w0 (w.alloc (.cells #[.int .i64 x.kind, .int .u64 (x.v : Int), .int .i64 x.n, .slice x.ao x.b.length x.cap, .string x.s] 52)) := bel.alloc bel.size _
  have hz := bel.size
  have HW : Hid (x.wr = bigTo x.v 8 8) := by show x.wr = _; simp [Item.wr, hk]
  have HC : Hid (Calls Tryd.prog 45 #[.pointer (some ⟨p, 0, none⟩), .int .u64 (x.v : Int)] (w.alloc (.cells #[.int .i64 x.kind, .int .u64 (x.v : Int), .int .i64 x.n, .slice x.ao x.b.length x.cap, .string x.s] 52)) fun e w' => e = .returned (.tuple #[]) ∧ ∃ v', WPost w w' w0.heap.size p v v' (l ++ bigTo x.v 8 8) ∧ w'.cell? ⟨w.heap.size, 1, none⟩ = some (.int .u64 (x.v : Int))) := by
    refine (wu64_any w0.heap.size p x.v v l _ h0A.ok hv (by omega) bA.size).mono fun e w' hh => ⟨hh.1, ?_⟩
    obtain ⟨v', hv'⟩ := hh.2
    exact ⟨v', h0A.trans hv', by rw [blk_at (loc_kept h hv'.kept)]; rfl⟩
  have HB : Hid (∀ W, Calls Tryd.prog 42 #[.int .u64 (x.v : Int), .int .i64 8] W fun e w' => e = .returned (.slice (some ⟨W.heap.size, 0, none⟩) 8 8) ∧ w'.ownsRow W.heap.size 5 1 (.slice (some ⟨W.heap.size, 0, none⟩) 8 8) 8 ((bigTo x.v 8 8).map bv) ∧ Below W.heap.size W w') := fun W => rbig_any x.v 8 W hv (by decide)
  rw [HW.out, bigTo_length]
  clear h bel h0A bA
  generalize bigTo x.v 8 8 = m at *
  have t1 : (x.kind == 1) = false := by rw [beq_eq_false_iff_ne]; omega
  have t2 : (x.kind == 2) = false := by rw [beq_eq_false_iff_ne]; omega
  have t3 : (x.kind == 3) = false := by rw [beq_eq_false_iff_ne]; omega
  have t4 : (x.kind == 4) = true := by rw [beq_iff_eq]; omega
  clear hk
  go_enter Tryd.func19, Tryd.ntmps19
  go_wp2_with fail
  refine HC.out.mono ?_
  rintro e w1 ⟨rfl, v1, hp1, y1⟩
  have HP : Hid (WPost w w1 w0.heap.size p v v1 (l ++ m)) := hp1
  clear hp1
  go_wp2_with fail
  refine (HB.out w1).mono ?_
  rintro e w2 ⟨rfl, ho, hb⟩
  have HE : Hid (w2.ownsRow w.heap.size 5 1 (.slice (some ⟨w1.heap.size, 0, none⟩) 8 8) 8 (m.map bv) ∧ WPost w w2 w0.heap.size p v v1 (l ++ m) ∧ Sep v1 (.slice (some ⟨w1.heap.size, 0, none⟩) 8 8)) := wr_end HP.out ho hb
  clear ho hb
  go_wp2
  go_ret2
  exact ⟨_, _, v1, rfl, HE.out.1, HE.out.2.1, HE.out.2.2⟩

set_option maxHeartbeats 2000000 in
theorem written_6 (w0 w : World) (p : Nat) (v : Value) (l : List Nat) (x : Item) (h : WOk w w0.heap.size p v l) (bel : Below w0.heap.size w0 w) (hk : x.kind = 6) (hl : l.length ≤ 140000000000000) :
    Calls Tryd.prog 19 #[.pointer (some ⟨p, 0, none⟩), .agg #[.int .i64 x.kind, .int .u64 (x.v : Int), .int .i64 x.n, .slice x.ao x.b.length x.cap, .string x.s]] w fun e w' => ∃ ao' cap' v', e = .returned (.tuple #[.slice ao' x.wr.length cap', .bool true]) ∧ w'.ownsRow w.heap.size 5 1 (.slice ao' x.wr.length cap') x.wr.length (x.wr.map bv) ∧ WPost w w' w0.heap.size p v v' (l ++ x.wr) ∧ Sep v' (.slice ao' x.wr.length cap') := by
  have h0A : WPost w (w.alloc (.cells #[.int .i64 x.kind, .int .u64 (x.v : Int), .int .i64 x.n, .slice x.ao x.b.length x.cap, .string x.s] 52)) w0.heap.size p v v l := WPost.ofBelow h ((Below.refl _ _).alloc (Nat.le_refl _) _)
  have bA : Below w0.heap.size w0 (w.alloc (.cells #[.int .i64 x.kind, .int .u64 (x.v : Int), .int .i64 x.n, .slice x.ao x.b.length x.cap, .string x.s] 52)) := bel.alloc bel.size _
  have hz := bel.size
  have HW : Hid (x.wr = zM x.n) := by show x.wr = _; simp [Item.wr, hk]
  have HC : Hid (Calls Tryd.prog 49 #[.pointer (some ⟨p, 0, none⟩), .int .i64 x.n] (w.alloc (.cells #[.int .i64 x.kind, .int .u64 (x.v : Int), .int .i64 x.n, .slice x.ao x.b.length x.cap, .string x.s] 52)) fun e w' => e = .returned (.int .i64 (zE x.n : Nat)) ∧ ∃ v', WPost w w' w0.heap.size p v v' (l ++ zM x.n) ∧ w'.cell? ⟨w.heap.size, 2, none⟩ = some (.int .i64 x.n)) := (wzeros_any w0.heap.size p v l x.n _ h0A.ok (by omega) bA.size).mono fun e w' hh => ⟨hh.1, by
    obtain ⟨v', hv'⟩ := hh.2
    exact ⟨v', h0A.trans hv', by rw [blk_at (loc_kept h hv'.kept)]; rfl⟩⟩
  have HB : Hid (∀ W, Calls Tryd.prog 50 #[.int .i64 x.n] W fun e w' => ∃ ao cap, e = .returned (.tuple #[.slice ao (zM x.n).length cap, .int .i64 (zE x.n : Nat)]) ∧ w'.ownsRow W.heap.size 5 1 (.slice ao (zM x.n).length cap) (zM x.n).length ((zM x.n).map bv) ∧ Below W.heap.size W w') := fun W => rzeros_any x.n W
  have he := zE_le x.n
  rw [HW.out]
  clear h bel h0A bA
  generalize zM x.n = m at *
  generalize zE x.n = c at *
  generalize hn : m.length = n at *
  have t1 : (x.kind == 1) = false := by rw [beq_eq_false_iff_ne]; omega
  have t2 : (x.kind == 2) = false := by rw [beq_eq_false_iff_ne]; omega
  have t3 : (x.kind == 3) = false := by rw [beq_eq_false_iff_ne]; omega
  have t4 : (x.kind == 4) = false := by rw [beq_eq_false_iff_ne]; omega
  have t5 : (x.kind == 5) = false := by rw [beq_eq_false_iff_ne]; omega
  have t6 : (x.kind == 6) = true := by rw [beq_iff_eq]; omega
  clear hk
  go_enter Tryd.func19, Tryd.ntmps19
  go_wp2_with fail
  refine HC.out.mono ?_
  rintro e w1 ⟨rfl, v1, hp1, y1⟩
  have HP : Hid (WPost w w1 w0.heap.size p v v1 (l ++ m)) := hp1
  clear hp1
  go_wp2_with fail
  refine (HB.out w1).mono ?_
  rintro e w2 ⟨ao, cap, rfl, ho, hb⟩
  have HE : Hid (w2.ownsRow w.heap.size 5 1 (.slice ao n cap) n (m.map bv) ∧ WPost w w2 w0.heap.size p v v1 (l ++ m) ∧ Sep v1 (.slice ao n cap)) := wr_end HP.out ho hb
  clear ho hb
  go_wp2
  go_ret2
  exact ⟨_, _, v1, rfl, HE.out.1, HE.out.2.1, HE.out.2.2⟩

set_option maxHeartbeats 2000000 in
theorem written_7 (w0 w : World) (p : Nat) (v : Value) (l : List Nat) (x : Item) (h : WOk w w0.heap.size p v l) (bel : Below w0.heap.size w0 w) (hk : x.kind = 7) (hT : Tabs w0) (hs : x.s.size ≤ 9223372036854775807) (hl : l.length ≤ 140000000000000) :
    Calls Tryd.prog 19 #[.pointer (some ⟨p, 0, none⟩), .agg #[.int .i64 x.kind, .int .u64 (x.v : Int), .int .i64 x.n, .slice x.ao x.b.length x.cap, .string x.s]] w fun e w' => ∃ ao' cap' v', e = .returned (.tuple #[.slice ao' x.wr.length cap', .bool true]) ∧ w'.ownsRow w.heap.size 5 1 (.slice ao' x.wr.length cap') x.wr.length (x.wr.map bv) ∧ WPost w w' w0.heap.size p v v' (l ++ x.wr) ∧ Sep v' (.slice ao' x.wr.length cap') := by
  have h0A : WPost w (w.alloc (.cells #[.int .i64 x.kind, .int .u64 (x.v : Int), .int .i64 x.n, .slice x.ao x.b.length x.cap, .string x.s] 52)) w0.heap.size p v v l := WPost.ofBelow h ((Below.refl _ _).alloc (Nat.le_refl _) _)
  have bA : Below w0.heap.size w0 (w.alloc (.cells #[.int .i64 x.kind, .int .u64 (x.v : Int), .int .i64 x.n, .slice x.ao x.b.length x.cap, .string x.s] 52)) := bel.alloc bel.size _
  have hz := bel.size
  have HW : Hid (x.wr = tM x.s) := by show x.wr = _; simp [Item.wr, hk]
  have HC : Hid (Calls Tryd.prog 51 #[.pointer (some ⟨p, 0, none⟩), .string x.s] (w.alloc (.cells #[.int .i64 x.kind, .int .u64 (x.v : Int), .int .i64 x.n, .slice x.ao x.b.length x.cap, .string x.s] 52)) fun e w' => e = .returned (.int .i64 (tE x.s : Nat)) ∧ ∃ v', WPost w w' w0.heap.size p v v' (l ++ tM x.s) ∧ w'.cell? ⟨w.heap.size, 4, none⟩ = some (.string x.s)) := (wtext_any w0.heap.size p v l x.s _ h0A.ok hs (hT.later bA) (by omega) bA.size).mono fun e w' hh => ⟨hh.1, by
    obtain ⟨v', hv'⟩ := hh.2
    exact ⟨v', h0A.trans hv', by rw [blk_at (loc_kept h hv'.kept)]; rfl⟩⟩
  have HB : Hid (∀ W, Calls Tryd.prog 52 #[.string x.s] W fun e w' => ∃ ao cap, e = .returned (.tuple #[.slice ao (tM x.s).length cap, .int .i64 (tE x.s : Nat)]) ∧ w'.ownsRow W.heap.size 5 1 (.slice ao (tM x.s).length cap) (tM x.s).length ((tM x.s).map bv) ∧ Below W.heap.size W w') := fun W => rtextw_any x.s W hs
  have he := tE_le x.s
  rw [HW.out]
  clear h bel h0A bA
  generalize tM x.s = m at *
  generalize tE x.s = c at *
  generalize hn : m.length = n at *
  have t1 : (x.kind == 1) = false := by rw [beq_eq_false_iff_ne]; omega
  have t2 : (x.kind == 2) = false := by rw [beq_eq_false_iff_ne]; omega
  have t3 : (x.kind == 3) = false := by rw [beq_eq_false_iff_ne]; omega
  have t4 : (x.kind == 4) = false := by rw [beq_eq_false_iff_ne]; omega
  have t5 : (x.kind == 5) = false := by rw [beq_eq_false_iff_ne]; omega
  have t6 : (x.kind == 6) = false := by rw [beq_eq_false_iff_ne]; omega
  have t7 : (x.kind == 7) = true := by rw [beq_iff_eq]; omega
  clear hk
  go_enter Tryd.func19, Tryd.ntmps19
  go_wp2_with fail
  refine HC.out.mono ?_
  rintro e w1 ⟨rfl, v1, hp1, y1⟩
  have HP : Hid (WPost w w1 w0.heap.size p v v1 (l ++ m)) := hp1
  clear hp1
  go_wp2_with fail
  refine (HB.out w1).mono ?_
  rintro e w2 ⟨ao, cap, rfl, ho, hb⟩
  have HE : Hid (w2.ownsRow w.heap.size 5 1 (.slice ao n cap) n (m.map bv) ∧ WPost w w2 w0.heap.size p v v1 (l ++ m) ∧ Sep v1 (.slice ao n cap)) := wr_end HP.out ho hb
  clear ho hb
  go_wp2
  go_ret2
  exact ⟨_, _, v1, rfl, HE.out.1, HE.out.2.1, HE.out.2.2⟩

set_option maxHeartbeats 2000000 in
theorem written_0 (w0 w : World) (p : Nat) (v : Value) (l : List Nat) (x : Item) (h : WOk w w0.heap.size p v l) (bel : Below w0.heap.size w0 w) (h1 : x.kind ≠ 1) (h2 : x.kind ≠ 2) (h3 : x.kind ≠ 3) (h4 : x.kind ≠ 4) (h5 : x.kind ≠ 5) (h6 : x.kind ≠ 6) (h7 : x.kind ≠ 7) :
    Calls Tryd.prog 19 #[.pointer (some ⟨p, 0, none⟩), .agg #[.int .i64 x.kind, .int .u64 (x.v : Int), .int .i64 x.n, .slice x.ao x.b.length x.cap, .string x.s]] w fun e w' => ∃ ao' cap' v', e = .returned (.tuple #[.slice ao' x.wr.length cap', .bool true]) ∧ w'.ownsRow w.heap.size 5 1 (.slice ao' x.wr.length cap') x.wr.length (x.wr.map bv) ∧ WPost w w' w0.heap.size p v v' (l ++ x.wr) ∧ Sep v' (.slice ao' x.wr.length cap') := by
  have HW : Hid (x.wr = []) := by show x.wr = _; simp [Item.wr, h1, h2, h3, h4, h5, h6, h7]
  have HP : Hid (WPost w (w.alloc (.cells #[.int .i64 x.kind, .int .u64 (x.v : Int), .int .i64 x.n, .slice x.ao x.b.length x.cap, .string x.s] 52)) w0.heap.size p v v (l ++ [])) := by rw [List.append_nil]; exact WPost.ofBelow h ((Below.refl _ _).alloc (Nat.le_refl _) _)
  have HS : Hid (Sep v (.slice none 0 0)) := fun g h1 h2 => by simp [Value.ownBlock] at h2
  rw [HW.out]
  have t1 : (x.kind == 1) = false := by rw [beq_eq_false_iff_ne]; omega
  have t2 : (x.kind == 2) = false := by rw [beq_eq_false_iff_ne]; omega
  have t3 : (x.kind == 3) = false := by rw [beq_eq_false_iff_ne]; omega
  have t4 : (x.kind == 4) = false := by rw [beq_eq_false_iff_ne]; omega
  have t5 : (x.kind == 5) = false := by rw [beq_eq_false_iff_ne]; omega
  have t6 : (x.kind == 6) = false := by rw [beq_eq_false_iff_ne]; omega
  have t7 : (x.kind == 7) = false := by rw [beq_eq_false_iff_ne]; omega
  clear h bel h1 h2 h3 h4 h5 h6 h7
  go_enter Tryd.func19, Tryd.ntmps19
  go_wp2
  go_ret2
  exact ⟨none, 0, v, rfl, World.ownsRow_nil _ _ _ _, HP.out, HS.out⟩

theorem belowD (w : World) (q : Nat) : Below w.heap.size w (w.drewN q) := ⟨rfl, rfl, rfl, Nat.le_refl _, fun _ _ => rfl⟩
theorem copyR_any (ao : Option Addr) (cap : Nat) (l : List Nat) (w : World) (h : BRow w ao cap l) :
    Calls Tryd.prog 18 #[.slice ao l.length cap] w fun e w' => ∃ ao' cap', e = .returned (.slice ao' l.length cap') ∧ w'.ownsRow w.heap.size 5 1 (.slice ao' l.length cap') l.length (l.map bv) ∧ Below w.heap.size w w' := by
  cases ao with
  | none =>
    obtain ⟨rfl, rfl⟩ := h.nil rfl
    exact (copy_none w).mono fun e w' hh => ⟨none, 0, hh.1, World.ownsRow_nil _ _ _ _, by rw [hh.2]; exact Below.refl _ _⟩
  | some ad =>
    refine (copy_some ad cap l w h).mono fun e w' hh => ?_
    obtain ⟨v, he, ho, hb⟩ := hh
    obtain ⟨ao', cap', rfl⟩ := owns_form ho
    exact ⟨ao', cap', he, ho, hb⟩

set_option maxHeartbeats 4000000 in
theorem written_5 (w0 w : World) (p : Nat) (v : Value) (l : List Nat) (x : Item) (h : WOk w w0.heap.size p v l) (bel : Below w0.heap.size w0 w) (hk : x.kind = 5) (hb : BRow w0 x.ao x.cap x.b) (hbl : x.b.length ≤ 1048576) (hl : l.length ≤ 140000000000000) :
    Calls Tryd.prog 19 #[.pointer (some ⟨p, 0, none⟩), .agg #[.int .i64 x.kind, .int .u64 (x.v : Int), .int .i64 x.n, .slice x.ao x.b.length x.cap, .string x.s]] w fun e w' => ∃ ao' cap' v', e = .returned (.tuple #[.slice ao' x.wr.length cap', .bool true]) ∧ w'.ownsRow w.heap.size 5 1 (.slice ao' x.wr.length cap') x.wr.length (x.wr.map bv) ∧ WPost w w' w0.heap.size p v v' (l ++ x.wr) ∧ Sep v' (.slice ao' x.wr.length cap') := by
  have h0A : WPost w (w.alloc (.cells #[.int .i64 x.kind, .int .u64 (x.v : Int), .int .i64 x.n, .slice x.ao x.b.length x.cap, .string x.s] 52)) w0.heap.size p v v l := WPost.ofBelow h ((Below.refl _ _).alloc (Nat.le_refl _) _)
  have bA : Below w0.heap.size w0 (w.alloc (.cells #[.int .i64 x.kind, .int .u64 (x.v : Int), .int .i64 x.n, .slice x.ao x.b.length x.cap, .string x.s] 52)) := bel.alloc bel.size _
  have hz := bel.size
  have HW : Hid (x.wr = x.b) := by show x.wr = _; simp [Item.wr, hk]
  rw [HW.out]
  have HBel : Hid (Below w0.heap.size w0 w) := bel
  have HWo : Hid (WOk w w0.heap.size p v l) := h
  have HR : Hid (∀ W, Below w0.heap.size w0 W → BRow W x.ao x.cap x.b) := fun W hW => hb.later hW
  have HLt : Hid (∀ y ∈ x.b, y < 256) := hb.lt
  have t1 : (x.kind == 1) = false := by rw [beq_eq_false_iff_ne]; omega
  have t2 : (x.kind == 2) = false := by rw [beq_eq_false_iff_ne]; omega
  have t3 : (x.kind == 3) = false := by rw [beq_eq_false_iff_ne]; omega
  have t4 : (x.kind == 4) = false := by rw [beq_eq_false_iff_ne]; omega
  have t5 : (x.kind == 5) = true := by rw [beq_iff_eq]; omega
  have HP0 : Hid (WPost w (w.alloc (.cells #[.int .i64 x.kind, .int .u64 (x.v : Int), .int .i64 x.n, .slice x.ao x.b.length x.cap, .string x.s] 52)) w0.heap.size p v v l) := h0A
  have HBA : Hid (Below w0.heap.size w0 (w.alloc (.cells #[.int .i64 x.kind, .int .u64 (x.v : Int), .int .i64 x.n, .slice x.ao x.b.length x.cap, .string x.s] 52))) := bA
  clear h bel hb hk h0A bA
  generalize hn : x.b.length = n at *
  have HN : Hid (x.b.length = n) := hn
  clear hn
  have HLd : Hid (Calls Tryd.prog 46 #[.slice x.ao n x.cap] (w.alloc (.cells #[.int .i64 x.kind, .int .u64 (x.v : Int), .int .i64 x.n, .slice x.ao n x.cap, .string x.s] 52)) fun e w' => ∃ g, e = .returned (.slice (some ⟨g, 0, none⟩) n (n + 70)) ∧ Lent (w.alloc (.cells #[.int .i64 x.kind, .int .u64 (x.v : Int), .int .i64 x.n, .slice x.ao n x.cap, .string x.s] 52)) w' g x.b) := lend_any x.ao x.cap n x.b _ (HR.out _ HBA.out) HN (by omega)
  have HCp : Hid (∀ W, Below w0.heap.size w0 W → Calls Tryd.prog 18 #[.slice x.ao n x.cap] W fun e w' => ∃ ao' cap', e = .returned (.slice ao' n cap') ∧ w'.ownsRow W.heap.size 5 1 (.slice ao' n cap') n (x.b.map bv) ∧ Below W.heap.size W w') := fun W hW => by
    have := copyR_any x.ao x.cap x.b W (HR.out W hW)
    rw [HN.out] at this; exact this
  have HKp : Hid (∀ w3 g, Below w0.heap.size w0 w3 → w3.heap[g]? = some (.cells ((x.b ++ marksTo 70).map bv).toArray 5 (0, 0)) → Calls Tryd.prog 48 #[.slice (some ⟨g, 0, none⟩) n (n + 70), .slice x.ao n x.cap] w3 fun e w' => e = .returned (.bool true) ∧ ∃ q, w' = w3.drewN q) := fun w3 g hb hg =>
    kept_true g x.ao x.cap n x.b w3 hg (HR.out w3 hb) HN (by omega)
  have HLb : Hid (∀ w1 g, Lent (w.alloc (.cells #[.int .i64 x.kind, .int .u64 (x.v : Int), .int .i64 x.n, .slice x.ao n x.cap, .string x.s] 52)) w1 g x.b → WPost w w1 w0.heap.size p v v l ∧ Below w0.heap.size w0 w1 ∧ w.heap.size ≤ g ∧ w1.heap[g]? = some (.cells ((x.b ++ marksTo 70).map bv).toArray 5 (0, 0)) ∧ w1.heap[w.heap.size]? = some (.cells #[.int .i64 x.kind, .int .u64 (x.v : Int), .int .i64 x.n, .slice x.ao n x.cap, .string x.s] 52) ∧ g ≠ w.heap.size) := fun w1 g hlt => by
    have hnew := hlt.new
    rw [World.size_alloc] at hnew
    exact ⟨HP0.out.trans (WPost.ofBelow HP0.out.ok hlt.bel), HBA.out.trans (hlt.bel.mono HBA.out.size), by omega, hlt.blk, loc_below (heap_new w _) hlt.bel, by omega⟩
  go_enter Tryd.func19, Tryd.ntmps19
  go_wp2_with fail
  refine HLd.out.mono ?_
  rintro e w1 ⟨g, rfl, hlent⟩
  have HL1 : Hid (WPost w w1 w0.heap.size p v v l ∧ Below w0.heap.size w0 w1 ∧ w.heap.size ≤ g ∧ w1.heap[g]? = some (.cells ((x.b ++ marksTo 70).map bv).toArray 5 (0, 0)) ∧ w1.heap[w.heap.size]? = some (.cells #[.int .i64 x.kind, .int .u64 (x.v : Int), .int .i64 x.n, .slice x.ao n x.cap, .string x.s] 52) ∧ g ≠ w.heap.size) := HLb.out w1 g hlent
  clear hlent
  have HB1 : Hid (Below w0.heap.size w0 w1) := HL1.out.2.1
  have HW1 : Hid (WPost w w1 w0.heap.size p v v l) := HL1.out.1
  have HRw : Hid (Calls Tryd.prog 47 #[.pointer (some ⟨p, 0, none⟩), .slice (some ⟨g, 0, none⟩) n (n + 70)] w1 fun e w' => e = .returned (.tuple #[]) ∧ ∃ v', WPost w1 w' w0.heap.size p v v' (l ++ x.b)) :=
    wraw_any w0.heap.size p v l x.b _ _ n w1 HW1.out.ok (lent_brow HL1.out.2.2.2.1 HLt.out (by rw [HN.out]; omega) _) HN (by omega) HB1.out.size
  go_wp2_with fail
  refine HRw.out.mono ?_
  rintro e w2 ⟨rfl, v2, hp2⟩
  have HP2 : Hid (WPost w1 w2 w0.heap.size p v v2 (l ++ x.b)) := hp2
  have HPw : Hid (WPost w w2 w0.heap.size p v v2 (l ++ x.b)) := HW1.out.trans hp2
  have HB2 : Hid (Below w0.heap.size w0 w2) := HB1.out.trans (wset_below HW1.out.ok hp2.kept HB1.out.size)
  have hgp : g ≠ p := by have := HL1.out.2.2.1; have := block_lt HWo.out.blk; omega
  have hgv : v.ownBlock ≠ some g := fun e => by have := HL1.out.2.2.1; have := (owns_lt HWo.out.own g e).1; omega
  have hgv2 : v2.ownBlock ≠ some g := fun e => by
    rcases hp2.fresh with hf | ⟨g', hf, hge⟩
    · exact hgv (hf ▸ e)
    · have hlt := block_lt HL1.out.2.2.2.1
      rw [hf] at e
      have := Option.some.inj e
      omega
  have HG2 : Hid (w2.heap[g]? = some (.cells ((x.b ++ marksTo 70).map bv).toArray 5 (0, 0))) := by
    show w2.heap[g]? = _
    rw [hp2.kept.block g (block_lt HL1.out.2.2.2.1) (fun hS => hS.elim hgp (fun e => hgv e))]; exact HL1.out.2.2.2.1
  have HGs : Hid (g ≠ p ∧ v2.ownBlock ≠ some g ∧ w.heap.size ≤ g) := ⟨hgp, hgv2, HL1.out.2.2.1⟩
  have HLc : Hid (w2.heap[w.heap.size]? = some (.cells #[.int .i64 x.kind, .int .u64 (x.v : Int), .int .i64 x.n, .slice x.ao n x.cap, .string x.s] 52)) := by
    show w2.heap[w.heap.size]? = _
    rw [hp2.kept.block _ (block_lt HL1.out.2.2.2.2.1) (fun hS => ?_)]
    · exact HL1.out.2.2.2.2.1
    · rcases hS with e | e
      · have := block_lt HWo.out.blk; omega
      · have := (owns_lt HWo.out.own _ e).1; omega
  have y3 : w2.cell? ⟨w.heap.size, 3, none⟩ = some (.slice x.ao n x.cap) := by rw [blk_at HLc.out]; rfl
  clear hp2 hgp hgv hgv2
  go_wp2_with fail
  refine (HKp.out w2 g HB2.out HG2.out).mono ?_
  rintro e w3 ⟨rfl, q, hw⟩
  rw [hw]; clear hw
  have HT0 : Hid (Turn (w2.drewN q) (w2.drewN q) g n) := by
    have := turn_start (W := w2.drewN q) (g := g) (l := x.b) HG2.out HLt.out
    rwa [HN.out] at this
  go_wp2
  go_loopw [8] (fun i wr => ∃ k : Nat, k ≤ n ∧ i = .int .i64 k ∧ Turn (w2.drewN q) wr g n) (fun i _ => n - (intOf i).toNat)
  case atStart => exact ⟨0, Nat.zero_le _, rfl, HT0.out⟩
  case round =>
    obtain ⟨k, hk, rfl, hinv⟩ := hrel
    have HI : Hid (Turn (w2.drewN q) wr g n) := hinv
    clear hinv
    by_cases hlt : k < n
    · obtain ⟨y, hy, hc, hf, hst⟩ := HI.out.cell k hlt
      have HSt : Hid (∀ z : Nat, z < 256 → Turn (w2.drewN q) (wr.setCell ⟨g, k, none⟩ (.int .u8 (z : Int))) g n) := hst
      clear hst
      go_wp2
      go_roundw
      case rel => exact ⟨k + 1, by omega, by go_num, by
        have := HSt.out ((y + 1) % 256) (by omega)
        rwa [show (((y + 1) % 256 : Nat) : Int) = ((y : Int) + 1) % 256 by omega] at this⟩
      case measure => simp [intOf]; omega
    · have z3 : wr.cell? ⟨w.heap.size, 3, none⟩ = some (.slice x.ao n x.cap) := by
        have : wr.heap[w.heap.size]? = _ := (HI.out.kept.block _ (block_lt HLc.out) (fun e => HL1.out.2.2.2.2.2 e.symm)).trans HLc.out
        rw [blk_at this]; rfl
      have HPr : Hid (WPost w wr w0.heap.size p v v2 (l ++ x.b)) := by
        have h1 : WPost w (w2.drewN q) w0.heap.size p v v2 (l ++ x.b) := HPw.out.trans (WPost.ofBelow HPw.out.ok (belowD w2 q))
        exact h1.andKept HI.out.kept (fun g' e => by have := HGs.out.2.2; omega) (fun e => HGs.out.1 e.symm) (fun g' h' e => HGs.out.2.1 (by rw [h']; exact congrArg some e))
      have HBr : Hid (Below w0.heap.size w0 wr) := by
        have h1 : Below w0.heap.size w0 (w2.drewN q) := HB2.out.trans ((belowD w2 q).mono HB2.out.size)
        exact h1.trans (HI.out.kept.below h1.size (fun g' hg' e => by have := HGs.out.2.2; have := HBel.out.size; omega))
      go_wp2_with fail
      refine (HCp.out wr HBr.out).mono ?_
      rintro e w5 ⟨ao, cap, rfl, ho, hb⟩
      have HE : Hid (w5.ownsRow w.heap.size 5 1 (.slice ao n cap) n (x.b.map bv) ∧ WPost w w5 w0.heap.size p v v2 (l ++ x.b) ∧ Sep v2 (.slice ao n cap)) := wr_end HPr.out ho hb
      clear ho hb
      go_wp2
      go_ret2
      exact ⟨_, _, v2, rfl, HE.out.1, HE.out.2.1, HE.out.2.2⟩
end Go.Proofs.YtpkobgnbjmefnabDoor
