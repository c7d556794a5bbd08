import Derived.Test.YtpkobgnbjmefnaaDoorWrA
namespace Go.Proofs.YtpkobgnbjmefnaaDoor
open Go.RowKit
set_option linter.unusedVariables false
set_option maxRecDepth 100000

theorem belowD (w : World) (q : Nat) : Below w.heap.size w (w.drewN q) := ⟨rfl, rfl, rfl, Nat.le_refl _, fun _ _ => rfl⟩
theorem copyR_any (ao : Option Addr) (cap : Nat) (l : List Nat) (w : World) (h : BRow w ao cap l) :
    Calls Tryd.prog 17 #[.slice ao l.length cap] w fun e w' => ∃ ao' cap', e = .returned (.slice ao' l.length cap') ∧ w'.ownsRow w.heap.size 5 1 (.slice ao' l.length cap') l.length (l.map bv) ∧ Below w.heap.size w w' := by
  cases ao with
  | none =>
    obtain ⟨rfl, rfl⟩ := h.nil rfl
    exact (copy_none w).mono fun e w' hh => ⟨none, 0, hh.1, World.ownsRow_nil _ _ _ _, by rw [hh.2]; exact Below.refl _ _⟩
  | some ad =>
    refine (copy_some ad cap l w h).mono fun e w' hh => ?_
    obtain ⟨v, he, ho, hb⟩ := hh
    obtain ⟨ao', cap', rfl⟩ := owns_form ho
    exact ⟨ao', cap', he, ho, hb⟩

set_option maxHeartbeats 4000000 in
theorem written_5 (w0 w : World) (p : Nat) (v : Value) (l : List Nat) (x : Item) (h : WOk w w0.heap.size p v l) (bel : Below w0.heap.size w0 w) (hk : x.kind = 5) (hb : BRow w0 x.ao x.cap x.b) (hbl : x.b.length ≤ 1048576) (hl : l.length ≤ 140000000000000) :
    Calls Tryd.prog 8 #[.pointer (some ⟨p, 0, none⟩), .agg #[.int .i64 x.kind, .int .u64 (x.v : Int), .int .i64 x.n, .slice x.ao x.b.length x.cap, .string x.s]] w fun e w' => ∃ ao' cap' v', e = .returned (.tuple #[.slice ao' x.wr.length cap', .bool true]) ∧ w'.ownsRow w.heap.size 5 1 (.slice ao' x.wr.length cap') x.wr.length (x.wr.map bv) ∧ WPost w w' w0.heap.size p v v' (l ++ x.wr) ∧ Sep v' (.slice ao' x.wr.length cap') := by
  have h0A : WPost w (w.alloc (.cells #[.int .i64 x.kind, .int .u64 (x.v : Int), .int .i64 x.n, .slice x.ao x.b.length x.cap, .string x.s] 31)) w0.heap.size p v v l := WPost.ofBelow h ((Below.refl _ _).alloc (Nat.le_refl _) _)
  have bA : Below w0.heap.size w0 (w.alloc (.cells #[.int .i64 x.kind, .int .u64 (x.v : Int), .int .i64 x.n, .slice x.ao x.b.length x.cap, .string x.s] 31)) := bel.alloc bel.size _
  have hz := bel.size
  have HW : Hid (x.wr = x.b) := by show x.wr = _; simp [Item.wr, hk]
  rw [HW.out]
  have HBel : Hid (Below w0.heap.size w0 w) := bel
  have HWo : Hid (WOk w w0.heap.size p v l) := h
  have HR : Hid (∀ W, Below w0.heap.size w0 W → BRow W x.ao x.cap x.b) := fun W hW => hb.later hW
  have HLt : Hid (∀ y ∈ x.b, y < 256) := hb.lt
  have t1 : (x.kind == 1) = false := by rw [beq_eq_false_iff_ne]; omega
  have t2 : (x.kind == 2) = false := by rw [beq_eq_false_iff_ne]; omega
  have t3 : (x.kind == 3) = false := by rw [beq_eq_false_iff_ne]; omega
  have t4 : (x.kind == 4) = false := by rw [beq_eq_false_iff_ne]; omega
  have t5 : (x.kind == 5) = true := by rw [beq_iff_eq]; omega
  have HP0 : Hid (WPost w (w.alloc (.cells #[.int .i64 x.kind, .int .u64 (x.v : Int), .int .i64 x.n, .slice x.ao x.b.length x.cap, .string x.s] 31)) w0.heap.size p v v l) := h0A
  have HBA : Hid (Below w0.heap.size w0 (w.alloc (.cells #[.int .i64 x.kind, .int .u64 (x.v : Int), .int .i64 x.n, .slice x.ao x.b.length x.cap, .string x.s] 31))) := bA
  clear h bel hb hk h0A bA
  generalize hn : x.b.length = n at *
  have HN : Hid (x.b.length = n) := hn
  clear hn
  have HLd : Hid (Calls Tryd.prog 14 #[.slice x.ao n x.cap] (w.alloc (.cells #[.int .i64 x.kind, .int .u64 (x.v : Int), .int .i64 x.n, .slice x.ao n x.cap, .string x.s] 31)) fun e w' => ∃ g, e = .returned (.slice (some ⟨g, 0, none⟩) n (n + 70)) ∧ Lent (w.alloc (.cells #[.int .i64 x.kind, .int .u64 (x.v : Int), .int .i64 x.n, .slice x.ao n x.cap, .string x.s] 31)) w' g x.b) := lend_any x.ao x.cap n x.b _ (HR.out _ HBA.out) HN (by omega)
  have HCp : Hid (∀ W, Below w0.heap.size w0 W → Calls Tryd.prog 17 #[.slice x.ao n x.cap] W fun e w' => ∃ ao' cap', e = .returned (.slice ao' n cap') ∧ w'.ownsRow W.heap.size 5 1 (.slice ao' n cap') n (x.b.map bv) ∧ Below W.heap.size W w') := fun W hW => by
    have := copyR_any x.ao x.cap x.b W (HR.out W hW)
    rw [HN.out] at this; exact this
  have HKp : Hid (∀ w3 g, Below w0.heap.size w0 w3 → w3.heap[g]? = some (.cells ((x.b ++ marksTo 70).map bv).toArray 5 (0, 0)) → Calls Tryd.prog 16 #[.slice (some ⟨g, 0, none⟩) n (n + 70), .slice x.ao n x.cap] w3 fun e w' => e = .returned (.bool true) ∧ ∃ q, w' = w3.drewN q) := fun w3 g hb hg =>
    kept_true g x.ao x.cap n x.b w3 hg (HR.out w3 hb) HN (by omega)
  have HLb : Hid (∀ w1 g, Lent (w.alloc (.cells #[.int .i64 x.kind, .int .u64 (x.v : Int), .int .i64 x.n, .slice x.ao n x.cap, .string x.s] 31)) w1 g x.b → WPost w w1 w0.heap.size p v v l ∧ Below w0.heap.size w0 w1 ∧ w.heap.size ≤ g ∧ w1.heap[g]? = some (.cells ((x.b ++ marksTo 70).map bv).toArray 5 (0, 0)) ∧ w1.heap[w.heap.size]? = some (.cells #[.int .i64 x.kind, .int .u64 (x.v : Int), .int .i64 x.n, .slice x.ao n x.cap, .string x.s] 31) ∧ g ≠ w.heap.size) := fun w1 g hlt => by
    have hnew := hlt.new
    rw [World.size_alloc] at hnew
    exact ⟨HP0.out.trans (WPost.ofBelow HP0.out.ok hlt.bel), HBA.out.trans (hlt.bel.mono HBA.out.size), by omega, hlt.blk, loc_below (heap_new w _) hlt.bel, by omega⟩
  go_enter Tryd.func8, Tryd.ntmps8
  go_wp2_with fail
  refine HLd.out.mono ?_
  rintro e w1 ⟨g, rfl, hlent⟩
  have HL1 : Hid (WPost w w1 w0.heap.size p v v l ∧ Below w0.heap.size w0 w1 ∧ w.heap.size ≤ g ∧ w1.heap[g]? = some (.cells ((x.b ++ marksTo 70).map bv).toArray 5 (0, 0)) ∧ w1.heap[w.heap.size]? = some (.cells #[.int .i64 x.kind, .int .u64 (x.v : Int), .int .i64 x.n, .slice x.ao n x.cap, .string x.s] 31) ∧ g ≠ w.heap.size) := HLb.out w1 g hlent
  clear hlent
  have HB1 : Hid (Below w0.heap.size w0 w1) := HL1.out.2.1
  have HW1 : Hid (WPost w w1 w0.heap.size p v v l) := HL1.out.1
  have HRw : Hid (Calls Tryd.prog 27 #[.pointer (some ⟨p, 0, none⟩), .slice (some ⟨g, 0, none⟩) n (n + 70)] w1 fun e w' => e = .returned (.tuple #[]) ∧ ∃ v', WPost w1 w' w0.heap.size p v v' (l ++ x.b)) :=
    wraw_any w0.heap.size p v l x.b _ _ n w1 HW1.out.ok (lent_brow HL1.out.2.2.2.1 HLt.out (by rw [HN.out]; omega) _) HN (by omega) HB1.out.size
  go_wp2_with fail
  refine HRw.out.mono ?_
  rintro e w2 ⟨rfl, v2, hp2⟩
  have HP2 : Hid (WPost w1 w2 w0.heap.size p v v2 (l ++ x.b)) := hp2
  have HPw : Hid (WPost w w2 w0.heap.size p v v2 (l ++ x.b)) := HW1.out.trans hp2
  have HB2 : Hid (Below w0.heap.size w0 w2) := HB1.out.trans (wset_below HW1.out.ok hp2.kept HB1.out.size)
  have hgp : g ≠ p := by have := HL1.out.2.2.1; have := block_lt HWo.out.blk; omega
  have hgv : v.ownBlock ≠ some g := fun e => by have := HL1.out.2.2.1; have := (owns_lt HWo.out.own g e).1; omega
  have hgv2 : v2.ownBlock ≠ some g := fun e => by
    rcases hp2.fresh with hf | ⟨g', hf, hge⟩
    · exact hgv (hf ▸ e)
    · have hlt := block_lt HL1.out.2.2.2.1
      rw [hf] at e
      have := Option.some.inj e
      omega
  have HG2 : Hid (w2.heap[g]? = some (.cells ((x.b ++ marksTo 70).map bv).toArray 5 (0, 0))) := by
    show w2.heap[g]? = _
    rw [hp2.kept.block g (block_lt HL1.out.2.2.2.1) (fun hS => hS.elim hgp (fun e => hgv e))]; exact HL1.out.2.2.2.1
  have HGs : Hid (g ≠ p ∧ v2.ownBlock ≠ some g ∧ w.heap.size ≤ g) := ⟨hgp, hgv2, HL1.out.2.2.1⟩
  have HLc : Hid (w2.heap[w.heap.size]? = some (.cells #[.int .i64 x.kind, .int .u64 (x.v : Int), .int .i64 x.n, .slice x.ao n x.cap, .string x.s] 31)) := by
    show w2.heap[w.heap.size]? = _
    rw [hp2.kept.block _ (block_lt HL1.out.2.2.2.2.1) (fun hS => ?_)]
    · exact HL1.out.2.2.2.2.1
    · rcases hS with e | e
      · have := block_lt HWo.out.blk; omega
      · have := (owns_lt HWo.out.own _ e).1; omega
  have y3 : w2.cell? ⟨w.heap.size, 3, none⟩ = some (.slice x.ao n x.cap) := by rw [blk_at HLc.out]; rfl
  clear hp2 hgp hgv hgv2
  go_wp2_with fail
  refine (HKp.out w2 g HB2.out HG2.out).mono ?_
  rintro e w3 ⟨rfl, q, hw⟩
  rw [hw]; clear hw
  have HT0 : Hid (Turn (w2.drewN q) (w2.drewN q) g n) := by
    have := turn_start (W := w2.drewN q) (g := g) (l := x.b) HG2.out HLt.out
    rwa [HN.out] at this
  go_wp2
  go_loopw [8] (fun i wr => ∃ k : Nat, k ≤ n ∧ i = .int .i64 k ∧ Turn (w2.drewN q) wr g n) (fun i _ => n - (intOf i).toNat)
  case atStart => exact ⟨0, Nat.zero_le _, rfl, HT0.out⟩
  case round =>
    obtain ⟨k, hk, rfl, hinv⟩ := hrel
    have HI : Hid (Turn (w2.drewN q) wr g n) := hinv
    clear hinv
    by_cases hlt : k < n
    · obtain ⟨y, hy, hc, hf, hst⟩ := HI.out.cell k hlt
      have HSt : Hid (∀ z : Nat, z < 256 → Turn (w2.drewN q) (wr.setCell ⟨g, k, none⟩ (.int .u8 (z : Int))) g n) := hst
      clear hst
      go_wp2
      go_roundw
      case rel => exact ⟨k + 1, by omega, by go_num, by
        have := HSt.out ((y + 1) % 256) (by omega)
        rwa [show (((y + 1) % 256 : Nat) : Int) = ((y : Int) + 1) % 256 by omega] at this⟩
      case measure => simp [intOf]; omega
    · have z3 : wr.cell? ⟨w.heap.size, 3, none⟩ = some (.slice x.ao n x.cap) := by
        have : wr.heap[w.heap.size]? = _ := (HI.out.kept.block _ (block_lt HLc.out) (fun e => HL1.out.2.2.2.2.2 e.symm)).trans HLc.out
        rw [blk_at this]; rfl
      have HPr : Hid (WPost w wr w0.heap.size p v v2 (l ++ x.b)) := by
        have h1 : WPost w (w2.drewN q) w0.heap.size p v v2 (l ++ x.b) := HPw.out.trans (WPost.ofBelow HPw.out.ok (belowD w2 q))
        exact h1.andKept HI.out.kept (fun g' e => by have := HGs.out.2.2; omega) (fun e => HGs.out.1 e.symm) (fun g' h' e => HGs.out.2.1 (by rw [h']; exact congrArg some e))
      have HBr : Hid (Below w0.heap.size w0 wr) := by
        have h1 : Below w0.heap.size w0 (w2.drewN q) := HB2.out.trans ((belowD w2 q).mono HB2.out.size)
        exact h1.trans (HI.out.kept.below h1.size (fun g' hg' e => by have := HGs.out.2.2; have := HBel.out.size; omega))
      go_wp2_with fail
      refine (HCp.out wr HBr.out).mono ?_
      rintro e w5 ⟨ao, cap, rfl, ho, hb⟩
      have HE : Hid (w5.ownsRow w.heap.size 5 1 (.slice ao n cap) n (x.b.map bv) ∧ WPost w w5 w0.heap.size p v v2 (l ++ x.b) ∧ Sep v2 (.slice ao n cap)) := wr_end HPr.out ho hb
      clear ho hb
      go_wp2
      go_ret2
      exact ⟨_, _, v2, rfl, HE.out.1, HE.out.2.1, HE.out.2.2⟩
end Go.Proofs.YtpkobgnbjmefnaaDoor
