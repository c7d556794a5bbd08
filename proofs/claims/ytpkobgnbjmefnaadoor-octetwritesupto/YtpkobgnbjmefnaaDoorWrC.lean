import Derived.Test.YtpkobgnbjmefnaaDoorWrA
namespace Go.Proofs.YtpkobgnbjmefnaaDoor
open Go.RowKit
set_option linter.unusedVariables false
set_option maxRecDepth 100000

set_option maxHeartbeats 2000000 in
theorem written_6 (w0 w : World) (p : Nat) (v : Value) (l : List Nat) (x : Item) (h : WOk w w0.heap.size p v l) (bel : Below w0.heap.size w0 w) (hk : x.kind = 6) (hl : l.length ≤ 140000000000000) :
    Calls Tryd.prog 8 #[.pointer (some ⟨p, 0, none⟩), .agg #[.int .i64 x.kind, .int .u64 (x.v : Int), .int .i64 x.n, .slice x.ao x.b.length x.cap, .string x.s]] w fun e w' => ∃ ao' cap' v', e = .returned (.tuple #[.slice ao' x.wr.length cap', .bool true]) ∧ w'.ownsRow w.heap.size 5 1 (.slice ao' x.wr.length cap') x.wr.length (x.wr.map bv) ∧ WPost w w' w0.heap.size p v v' (l ++ x.wr) ∧ Sep v' (.slice ao' x.wr.length cap') := by
  have h0A : WPost w (w.alloc (.cells #[.int .i64 x.kind, .int .u64 (x.v : Int), .int .i64 x.n, .slice x.ao x.b.length x.cap, .string x.s] 31)) w0.heap.size p v v l := WPost.ofBelow h ((Below.refl _ _).alloc (Nat.le_refl _) _)
  have bA : Below w0.heap.size w0 (w.alloc (.cells #[.int .i64 x.kind, .int .u64 (x.v : Int), .int .i64 x.n, .slice x.ao x.b.length x.cap, .string x.s] 31)) := bel.alloc bel.size _
  have hz := bel.size
  have HW : Hid (x.wr = zM x.n) := by show x.wr = _; simp [Item.wr, hk]
  have HC : Hid (Calls Tryd.prog 38 #[.pointer (some ⟨p, 0, none⟩), .int .i64 x.n] (w.alloc (.cells #[.int .i64 x.kind, .int .u64 (x.v : Int), .int .i64 x.n, .slice x.ao x.b.length x.cap, .string x.s] 31)) fun e w' => e = .returned (.int .i64 (zE x.n : Nat)) ∧ ∃ v', WPost w w' w0.heap.size p v v' (l ++ zM x.n) ∧ w'.cell? ⟨w.heap.size, 2, none⟩ = some (.int .i64 x.n)) := (wzeros_any w0.heap.size p v l x.n _ h0A.ok (by omega) bA.size).mono fun e w' hh => ⟨hh.1, by
    obtain ⟨v', hv'⟩ := hh.2
    exact ⟨v', h0A.trans hv', by rw [blk_at (loc_kept h hv'.kept)]; rfl⟩⟩
  have HB : Hid (∀ W, Calls Tryd.prog 39 #[.int .i64 x.n] W fun e w' => ∃ ao cap, e = .returned (.tuple #[.slice ao (zM x.n).length cap, .int .i64 (zE x.n : Nat)]) ∧ w'.ownsRow W.heap.size 5 1 (.slice ao (zM x.n).length cap) (zM x.n).length ((zM x.n).map bv) ∧ Below W.heap.size W w') := fun W => rzeros_any x.n W
  have he := zE_le x.n
  rw [HW.out]
  clear h bel h0A bA
  generalize zM x.n = m at *
  generalize zE x.n = c at *
  generalize hn : m.length = n at *
  have t1 : (x.kind == 1) = false := by rw [beq_eq_false_iff_ne]; omega
  have t2 : (x.kind == 2) = false := by rw [beq_eq_false_iff_ne]; omega
  have t3 : (x.kind == 3) = false := by rw [beq_eq_false_iff_ne]; omega
  have t4 : (x.kind == 4) = false := by rw [beq_eq_false_iff_ne]; omega
  have t5 : (x.kind == 5) = false := by rw [beq_eq_false_iff_ne]; omega
  have t6 : (x.kind == 6) = true := by rw [beq_iff_eq]; omega
  clear hk
  go_enter Tryd.func8, Tryd.ntmps8
  go_wp2_with fail
  refine HC.out.mono ?_
  rintro e w1 ⟨rfl, v1, hp1, y1⟩
  have HP : Hid (WPost w w1 w0.heap.size p v v1 (l ++ m)) := hp1
  clear hp1
  go_wp2_with fail
  refine (HB.out w1).mono ?_
  rintro e w2 ⟨ao, cap, rfl, ho, hb⟩
  have HE : Hid (w2.ownsRow w.heap.size 5 1 (.slice ao n cap) n (m.map bv) ∧ WPost w w2 w0.heap.size p v v1 (l ++ m) ∧ Sep v1 (.slice ao n cap)) := wr_end HP.out ho hb
  clear ho hb
  go_wp2
  go_ret2
  exact ⟨_, _, v1, rfl, HE.out.1, HE.out.2.1, HE.out.2.2⟩

set_option maxHeartbeats 2000000 in
theorem written_7 (w0 w : World) (p : Nat) (v : Value) (l : List Nat) (x : Item) (h : WOk w w0.heap.size p v l) (bel : Below w0.heap.size w0 w) (hk : x.kind = 7) (hT : Tabs w0) (hs : x.s.size ≤ 9223372036854775807) (hl : l.length ≤ 140000000000000) :
    Calls Tryd.prog 8 #[.pointer (some ⟨p, 0, none⟩), .agg #[.int .i64 x.kind, .int .u64 (x.v : Int), .int .i64 x.n, .slice x.ao x.b.length x.cap, .string x.s]] w fun e w' => ∃ ao' cap' v', e = .returned (.tuple #[.slice ao' x.wr.length cap', .bool true]) ∧ w'.ownsRow w.heap.size 5 1 (.slice ao' x.wr.length cap') x.wr.length (x.wr.map bv) ∧ WPost w w' w0.heap.size p v v' (l ++ x.wr) ∧ Sep v' (.slice ao' x.wr.length cap') := by
  have h0A : WPost w (w.alloc (.cells #[.int .i64 x.kind, .int .u64 (x.v : Int), .int .i64 x.n, .slice x.ao x.b.length x.cap, .string x.s] 31)) w0.heap.size p v v l := WPost.ofBelow h ((Below.refl _ _).alloc (Nat.le_refl _) _)
  have bA : Below w0.heap.size w0 (w.alloc (.cells #[.int .i64 x.kind, .int .u64 (x.v : Int), .int .i64 x.n, .slice x.ao x.b.length x.cap, .string x.s] 31)) := bel.alloc bel.size _
  have hz := bel.size
  have HW : Hid (x.wr = tM x.s) := by show x.wr = _; simp [Item.wr, hk]
  have HC : Hid (Calls Tryd.prog 28 #[.pointer (some ⟨p, 0, none⟩), .string x.s] (w.alloc (.cells #[.int .i64 x.kind, .int .u64 (x.v : Int), .int .i64 x.n, .slice x.ao x.b.length x.cap, .string x.s] 31)) fun e w' => e = .returned (.int .i64 (tE x.s : Nat)) ∧ ∃ v', WPost w w' w0.heap.size p v v' (l ++ tM x.s) ∧ w'.cell? ⟨w.heap.size, 4, none⟩ = some (.string x.s)) := (wtext_any w0.heap.size p v l x.s _ h0A.ok hs (hT.later bA) (by omega) bA.size).mono fun e w' hh => ⟨hh.1, by
    obtain ⟨v', hv'⟩ := hh.2
    exact ⟨v', h0A.trans hv', by rw [blk_at (loc_kept h hv'.kept)]; rfl⟩⟩
  have HB : Hid (∀ W, Calls Tryd.prog 40 #[.string x.s] W fun e w' => ∃ ao cap, e = .returned (.tuple #[.slice ao (tM x.s).length cap, .int .i64 (tE x.s : Nat)]) ∧ w'.ownsRow W.heap.size 5 1 (.slice ao (tM x.s).length cap) (tM x.s).length ((tM x.s).map bv) ∧ Below W.heap.size W w') := fun W => rtextw_any x.s W hs
  have he := tE_le x.s
  rw [HW.out]
  clear h bel h0A bA
  generalize tM x.s = m at *
  generalize tE x.s = c at *
  generalize hn : m.length = n at *
  have t1 : (x.kind == 1) = false := by rw [beq_eq_false_iff_ne]; omega
  have t2 : (x.kind == 2) = false := by rw [beq_eq_false_iff_ne]; omega
  have t3 : (x.kind == 3) = false := by rw [beq_eq_false_iff_ne]; omega
  have t4 : (x.kind == 4) = false := by rw [beq_eq_false_iff_ne]; omega
  have t5 : (x.kind == 5) = false := by rw [beq_eq_false_iff_ne]; omega
  have t6 : (x.kind == 6) = false := by rw [beq_eq_false_iff_ne]; omega
  have t7 : (x.kind == 7) = true := by rw [beq_iff_eq]; omega
  clear hk
  go_enter Tryd.func8, Tryd.ntmps8
  go_wp2_with fail
  refine HC.out.mono ?_
  rintro e w1 ⟨rfl, v1, hp1, y1⟩
  have HP : Hid (WPost w w1 w0.heap.size p v v1 (l ++ m)) := hp1
  clear hp1
  go_wp2_with fail
  refine (HB.out w1).mono ?_
  rintro e w2 ⟨ao, cap, rfl, ho, hb⟩
  have HE : Hid (w2.ownsRow w.heap.size 5 1 (.slice ao n cap) n (m.map bv) ∧ WPost w w2 w0.heap.size p v v1 (l ++ m) ∧ Sep v1 (.slice ao n cap)) := wr_end HP.out ho hb
  clear ho hb
  go_wp2
  go_ret2
  exact ⟨_, _, v1, rfl, HE.out.1, HE.out.2.1, HE.out.2.2⟩

set_option maxHeartbeats 2000000 in
theorem written_0 (w0 w : World) (p : Nat) (v : Value) (l : List Nat) (x : Item) (h : WOk w w0.heap.size p v l) (bel : Below w0.heap.size w0 w) (h1 : x.kind ≠ 1) (h2 : x.kind ≠ 2) (h3 : x.kind ≠ 3) (h4 : x.kind ≠ 4) (h5 : x.kind ≠ 5) (h6 : x.kind ≠ 6) (h7 : x.kind ≠ 7) :
    Calls Tryd.prog 8 #[.pointer (some ⟨p, 0, none⟩), .agg #[.int .i64 x.kind, .int .u64 (x.v : Int), .int .i64 x.n, .slice x.ao x.b.length x.cap, .string x.s]] w fun e w' => ∃ ao' cap' v', e = .returned (.tuple #[.slice ao' x.wr.length cap', .bool true]) ∧ w'.ownsRow w.heap.size 5 1 (.slice ao' x.wr.length cap') x.wr.length (x.wr.map bv) ∧ WPost w w' w0.heap.size p v v' (l ++ x.wr) ∧ Sep v' (.slice ao' x.wr.length cap') := by
  have HW : Hid (x.wr = []) := by show x.wr = _; simp [Item.wr, h1, h2, h3, h4, h5, h6, h7]
  have HP : Hid (WPost w (w.alloc (.cells #[.int .i64 x.kind, .int .u64 (x.v : Int), .int .i64 x.n, .slice x.ao x.b.length x.cap, .string x.s] 31)) w0.heap.size p v v (l ++ [])) := by rw [List.append_nil]; exact WPost.ofBelow h ((Below.refl _ _).alloc (Nat.le_refl _) _)
  have HS : Hid (Sep v (.slice none 0 0)) := fun g h1 h2 => by simp [Value.ownBlock] at h2
  rw [HW.out]
  have t1 : (x.kind == 1) = false := by rw [beq_eq_false_iff_ne]; omega
  have t2 : (x.kind == 2) = false := by rw [beq_eq_false_iff_ne]; omega
  have t3 : (x.kind == 3) = false := by rw [beq_eq_false_iff_ne]; omega
  have t4 : (x.kind == 4) = false := by rw [beq_eq_false_iff_ne]; omega
  have t5 : (x.kind == 5) = false := by rw [beq_eq_false_iff_ne]; omega
  have t6 : (x.kind == 6) = false := by rw [beq_eq_false_iff_ne]; omega
  have t7 : (x.kind == 7) = false := by rw [beq_eq_false_iff_ne]; omega
  clear h bel h1 h2 h3 h4 h5 h6 h7
  go_enter Tryd.func8, Tryd.ntmps8
  go_wp2
  go_ret2
  exact ⟨none, 0, v, rfl, World.ownsRow_nil _ _ _ _, HP.out, HS.out⟩
end Go.Proofs.YtpkobgnbjmefnaaDoor
