import Derived.Test.YtodinademhibjaaDoorRuN
import Derived.Test.YtodinademhibjaaDoorRuT
import Derived.Test.YtodinademhibjaaDoorRuJ
namespace Go.Proofs.YtodinademhibjaaDoor
open Go.RowKit
set_option linter.unusedVariables false
set_option linter.unusedSimpArgs false
set_option maxRecDepth 100000

theorem owns_lt {w : World} {base e n : Nat} {v : Value} {xs : List Value} (h : w.ownsRow base e 1 v n xs) (g : Nat) (hg : v.ownBlock = some g) : g < w.heap.size ∧ base ≤ g := by
  rcases h.2 with ⟨hv, _⟩ | ⟨g', cap, cur, hv, hb, hh, _⟩
  · subst hv; simp [Value.ownBlock] at hg
  · subst hv; simp [Value.ownBlock] at hg; subst hg; exact ⟨(Array.getElem?_eq_some_iff.1 hh).1, hb⟩
theorem owns_same {w w' : World} {base e n : Nat} {v : Value} {xs : List Value} (h : w.ownsRow base e 1 v n xs) (hs : ∀ g, v.ownBlock = some g → w'.heap[g]? = w.heap[g]?) : w'.ownsRow base e 1 v n xs := by
  refine ⟨h.1, ?_⟩
  rcases h.2 with h2 | ⟨g, cap, cur, hv, hb, hh, r⟩
  · exact .inl h2
  · subst hv; exact .inr ⟨g, cap, cur, rfl, hb, by rw [hs g rfl]; exact hh, r⟩
theorem BRow.news {w : World} {ao : Option Addr} {cap : Nat} {l : List Nat} (h : BRow w ao cap l) : ∀ ad, ao = some ad → ∀ j u, (l.map bv)[j]? = some u → w.cell? (ad.add j) = some u := by
  intro ad e j u hu
  rw [List.getElem?_map] at hu
  have hj : j < l.length := by
    rcases Nat.lt_or_ge j l.length with h | h
    · exact h
    · rw [List.getElem?_eq_none h] at hu; simp at hu
  have hne : l ≠ [] := by intro h0; subst h0; simp at hj
  obtain ⟨b, off, e2, hc⟩ := h.at_ hne
  rw [e2] at e; cases e
  rw [add_plain, hc j hj]
  rw [List.getElem?_eq_getElem hj] at hu
  simpa using hu
theorem bv_one (l : List Nat) : ∀ u ∈ l.map bv, u.oneCell' = true := by
  intro u hu
  obtain ⟨x, _, rfl⟩ := List.mem_map.1 hu
  rfl

/-- what the rounds keep -/
structure Ck (w wr : World) (bq : Nat) (vo : Option Addr) (vc : Nat) (cv : Value) (nm ds : ByteArray) (sec : Int) (ro rt pv tr : Bool) (mn pf : Nat) (ix : Int) (st ex : Bool) (bo : Option Addr) (m bc : Nat) (py op : Nat) (fi : Int) (fl ty ck of ln : Nat) (ao : Option Addr) (n cap : Nat) : Prop where
  bel : Below w.heap.size w wr
  x : Bk wr w.heap.size #[.string nm, .string ds, .int .i64 sec, .bool ro, .bool rt, .bool pv, .bool tr, .int .u32 (mn : Int), .int .u32 (pf : Int), .int .i64 ix, .bool st, .bool ex, .slice bo m bc, .int .u32 (py : Int), .int .u32 (op : Int), .int .i64 fi, .int .u16 (fl : Int), .int .u16 (ty : Int), .int .u64 (ck : Int), .int .u64 (of : Int), .int .u64 (ln : Int), .slice ao n cap] 38
  q : Bk wr bq #[.int .u16 (fl : Int), .int .u16 (ty : Int), cv, .int .u64 (of : Int), .int .u64 (ln : Int), .slice vo n vc] 36
  own : ∃ l : List Nat, l.length = n ∧ (∀ y ∈ l, y < 256) ∧ wr.ownsRow (bq + 1) 5 1 (.slice vo n vc) n (l.map bv)
  hq : w.heap.size < bq
  t0 : Tb w
theorem Ck.t {w wr : World} {bq : Nat} {vo : Option Addr} {vc : Nat} {cv : Value} {nm ds : ByteArray} {sec : Int} {ro rt pv tr : Bool} {mn pf : Nat} {ix : Int} {st ex : Bool} {bo : Option Addr} {m bc : Nat} {py op : Nat} {fi : Int} {fl ty ck of ln : Nat} {ao : Option Addr} {n cap : Nat} (h : Ck w wr bq vo vc cv nm ds sec ro rt pv tr mn pf ix st ex bo m bc py op fi fl ty ck of ln ao n cap) : Tb wr := h.t0.later h.bel
theorem Ck.drew {w wr : World} {bq : Nat} {vo : Option Addr} {vc : Nat} {cv : Value} {nm ds : ByteArray} {sec : Int} {ro rt pv tr : Bool} {mn pf : Nat} {ix : Int} {st ex : Bool} {bo : Option Addr} {m bc : Nat} {py op : Nat} {fi : Int} {fl ty ck of ln : Nat} {ao : Option Addr} {n cap : Nat} (h : Ck w wr bq vo vc cv nm ds sec ro rt pv tr mn pf ix st ex bo m bc py op fi fl ty ck of ln ao n cap) : Ck w wr.drew bq vo vc cv nm ds sec ro rt pv tr mn pf ix st ex bo m bc py op fi fl ty ck of ln ao n cap :=
  ⟨⟨h.bel.os, h.bel.tape, h.bel.output, h.bel.size, h.bel.block⟩, h.x, h.q, h.own, h.hq, h.t0⟩
theorem Ck.drewN {w wr : World} {bq : Nat} {vo : Option Addr} {vc : Nat} {cv : Value} {nm ds : ByteArray} {sec : Int} {ro rt pv tr : Bool} {mn pf : Nat} {ix : Int} {st ex : Bool} {bo : Option Addr} {m bc : Nat} {py op : Nat} {fi : Int} {fl ty ck of ln : Nat} {ao : Option Addr} {n cap : Nat} (h : Ck w wr bq vo vc cv nm ds sec ro rt pv tr mn pf ix st ex bo m bc py op fi fl ty ck of ln ao n cap) (k : Nat) : Ck w (wr.drewN k) bq vo vc cv nm ds sec ro rt pv tr mn pf ix st ex bo m bc py op fi fl ty ck of ln ao n cap :=
  ⟨⟨h.bel.os, h.bel.tape, h.bel.output, h.bel.size, h.bel.block⟩, h.x, h.q, h.own, h.hq, h.t0⟩
theorem Ck.cv {w wr : World} {bq : Nat} {vo : Option Addr} {vc : Nat} {cv : Value} {nm ds : ByteArray} {sec : Int} {ro rt pv tr : Bool} {mn pf : Nat} {ix : Int} {st ex : Bool} {bo : Option Addr} {m bc : Nat} {py op : Nat} {fi : Int} {fl ty ck of ln : Nat} {ao : Option Addr} {n cap : Nat} (h : Ck w wr bq vo vc cv nm ds sec ro rt pv tr mn pf ix st ex bo m bc py op fi fl ty ck of ln ao n cap) (u : Value) : Ck w (wr.setCell ⟨bq, 2, none⟩ u) bq vo vc u nm ds sec ro rt pv tr mn pf ix st ex bo m bc py op fi fl ty ck of ln ao n cap := by
  have hq := h.hq
  obtain ⟨l, h1, h2, h3⟩ := h.own
  exact ⟨below_put h.bel (by omega), h.x.other (by omega), h.q.set 2 u, ⟨l, h1, h2, owns_same h3 (fun g hg => Below.heap_setCell _ _ _ _ (by have := (owns_lt h3 g hg).2; show g ≠ bq; omega))⟩, h.hq, h.t0⟩
/-- a byte is written -/
theorem Ck.put {w wr : World} {bq : Nat} {vo : Option Addr} {vc : Nat} {cv : Value} {nm ds : ByteArray} {sec : Int} {ro rt pv tr : Bool} {mn pf : Nat} {ix : Int} {st ex : Bool} {bo : Option Addr} {m bc : Nat} {py op : Nat} {fi : Int} {fl ty ck of ln : Nat} {ao : Option Addr} {n cap : Nat} (h : Ck w wr bq vo vc cv nm ds sec ro rt pv tr mn pf ix st ex bo m bc py op fi fl ty ck of ln ao n cap) (i : Nat) (hi : i < n) :
    ∃ g, vo = some ⟨g, 0, none⟩ ∧ (∃ y : Nat, y < 256 ∧ wr.cell? ⟨g, i, none⟩ = some (.int .u8 (y : Int))) ∧ wr.frozen? ⟨g, i, none⟩ = false ∧ n ≤ vc ∧ vc ≤ 9223372036854775807 ∧ ∀ y : Nat, y < 256 → Ck w (wr.setCell ⟨g, i, none⟩ (.int .u8 (y : Int))) bq vo vc cv nm ds sec ro rt pv tr mn pf ix st ex bo m bc py op fi fl ty ck of ln ao n cap := by
  obtain ⟨l, hl, hlt, ho⟩ := h.own
  rcases ho.2 with ⟨hv, hn⟩ | ⟨g, cap', cur, hv, hb, hh, hnc, hcm, hs, htk⟩
  · omega
  · simp only [Value.slice.injEq] at hv
    obtain ⟨rfl, _, rfl⟩ := hv
    have hb0 := h.hq
    refine ⟨g, rfl, ⟨l[i], hlt _ (List.getElem_mem _), ?_⟩, frozen_of_row wr g i cur 5 hh, hnc, by unfold maxLen at hcm; omega, fun y hy => ?_⟩
    · rw [ho.cellAt i (by omega)]
      simp [bv, hl, hi]
    · refine ⟨below_put h.bel (by omega), h.x.other (by omega), h.q.other (by omega), ⟨l.set i y, by simpa using hl, ?_, ?_⟩, h.hq, h.t0⟩
      · intro z hz
        rcases List.mem_or_eq_of_mem_set hz with hz | rfl
        · exact hlt z hz
        · exact hy
      · have := ho.stored i (.int .u8 (y : Int))
        rw [List.map_set]
        exact this.1

set_option maxHeartbeats 8000000 in
theorem checks_t (nm ds : ByteArray) (sec : Int) (ro rt pv tr : Bool) (mn pf : Nat) (ix : Int) (st ex : Bool) (bo : Option Addr) (m bc : Nat) (py op : Nat) (fi : Int) (fl ty ck of ln : Nat) (ao : Option Addr) (n cap : Nat) (hs : (Lit.int .i64 sec).wf = true) (hpy : py < 4294967296) (hmn : mn < 4294967296) (hf : fl < 65536) (ht : ty < 65536) (hck : ck < 18446744073709551616) (hof : of < 18446744073709551616) (hln : ln < 18446744073709551616) (w : World) (hT : Tb w) (l : List Nat) (hB : BRow w ao cap l) (HLn : Hid (l.length = n)) (hn : n ≤ 140737488351232) :
    Calls Tryd.prog 4 #[caseV nm ds sec ro rt pv tr mn pf ix st ex bo m bc py op fi fl ty ck of ln ao n cap] w fun e w' => e = .returned (.bool true) ∧ Below w.heap.size w w' := by
  obtain ⟨a, ha⟩ : ∃ a, chk sec ro mn st ex m py fl ty of ln = a := ⟨_, rfl⟩
  have HF : Hid (∀ W, Tb W → Calls Tryd.prog 15 #[expV nm ds sec ro rt pv tr mn pf, sesV ix st ex bo m bc, limV py op fi, reqV fl ty ck of ln ao n cap] W fun e w' => e = .returned (.int .u32 (a : Int)) ∧ Below W.heap.size W w') := fun W hW => by
    rw [← ha]; exact check_any nm ds sec ro rt pv tr mn pf ix st ex bo m bc py op fi fl ty ck of ln ao n cap hs hpy hmn hf ht hof hln W hW
  have HR : Hid (∀ W, Tb W → Calls Tryd.prog 14 #[expV nm ds sec ro rt pv tr mn pf, sesV ix st ex bo m bc, limV py op fi, reqV fl ty ck of ln ao n cap] W fun e w' => e = .returned (.int .u32 (a : Int)) ∧ Below W.heap.size W w') := fun W hW => by
    rw [← ha]; exact rcheck_any nm ds sec ro rt pv tr mn pf ix st ex bo m bc py op fi fl ty ck of ln ao n cap hs hpy hmn hf ht hof hln W hW
  have HF2 : Hid (∀ (ck' : Nat) (vo : Option Addr) (vc : Nat) W, Tb W → Calls Tryd.prog 15 #[expV nm ds sec ro rt pv tr mn pf, sesV ix st ex bo m bc, limV py op fi, reqV fl ty ck' of ln vo n vc] W fun e w' => e = .returned (.int .u32 (a : Int)) ∧ Below W.heap.size W w') := fun ck' vo vc W hW => by
    rw [← ha]; exact check_any nm ds sec ro rt pv tr mn pf ix st ex bo m bc py op fi fl ty ck' of ln vo n vc hs hpy hmn hf ht hof hln W hW
  have HH : Hid (∀ W, Tb W → Calls Tryd.prog 16 #[] W fun e w' => e = .returned (.bool true) ∧ Below W.heap.size W w') := heads_any
  have HT : Hid (Tb w) := hT
  have HB : Hid (BRow w ao cap l) := hB
  obtain ⟨i0, hi, hz0, hz1, hz2⟩ := info_parts Tryd.info5
  clear hT ha hs hpy hmn hf ht hof hln hB
  have eaa : ((a : Int) == (a : Int)) = true := by simp
  go_enter Tryd.func4, Tryd.ntmps4
  go_wp2_with fail
  refine (HR.out _ (HT.out.alloc _)).mono ?_
  rintro e w1 ⟨rfl, hbe⟩
  have BK : Hid (Bk w1 w.heap.size #[.string nm, .string ds, .int .i64 sec, .bool ro, .bool rt, .bool pv, .bool tr, .int .u32 (mn : Int), .int .u32 (pf : Int), .int .i64 ix, .bool st, .bool ex, .slice bo m bc, .int .u32 (py : Int), .int .u32 (op : Int), .int .i64 fi, .int .u16 (fl : Int), .int .u16 (ty : Int), .int .u64 (ck : Int), .int .u64 (of : Int), .int .u64 (ln : Int), .slice ao n cap] 38) := (Bk.new w _ _).later hbe
  have BB : Hid (Below w.heap.size w w1) := bcons (bnew _ _) hbe
  clear hbe HR
  have c0 : w1.cell? ⟨w.heap.size, 0, none⟩ = some (.string nm) := BK.out.c 0 (by show 0 < 22; decide)
  have c1 : w1.cell? ⟨w.heap.size, 1, none⟩ = some (.string ds) := BK.out.c 1 (by show 1 < 22; decide)
  have c2 : w1.cell? ⟨w.heap.size, 2, none⟩ = some (.int .i64 sec) := BK.out.c 2 (by show 2 < 22; decide)
  have c3 : w1.cell? ⟨w.heap.size, 3, none⟩ = some (.bool ro) := BK.out.c 3 (by show 3 < 22; decide)
  have c4 : w1.cell? ⟨w.heap.size, 4, none⟩ = some (.bool rt) := BK.out.c 4 (by show 4 < 22; decide)
  have c5 : w1.cell? ⟨w.heap.size, 5, none⟩ = some (.bool pv) := BK.out.c 5 (by show 5 < 22; decide)
  have c6 : w1.cell? ⟨w.heap.size, 6, none⟩ = some (.bool tr) := BK.out.c 6 (by show 6 < 22; decide)
  have c7 : w1.cell? ⟨w.heap.size, 7, none⟩ = some (.int .u32 (mn : Int)) := BK.out.c 7 (by show 7 < 22; decide)
  have c8 : w1.cell? ⟨w.heap.size, 8, none⟩ = some (.int .u32 (pf : Int)) := BK.out.c 8 (by show 8 < 22; decide)
  have c9 : w1.cell? ⟨w.heap.size, 9, none⟩ = some (.int .i64 ix) := BK.out.c 9 (by show 9 < 22; decide)
  have c10 : w1.cell? ⟨w.heap.size, 10, none⟩ = some (.bool st) := BK.out.c 10 (by show 10 < 22; decide)
  have c11 : w1.cell? ⟨w.heap.size, 11, none⟩ = some (.bool ex) := BK.out.c 11 (by show 11 < 22; decide)
  have c12 : w1.cell? ⟨w.heap.size, 12, none⟩ = some (.slice bo m bc) := BK.out.c 12 (by show 12 < 22; decide)
  have c13 : w1.cell? ⟨w.heap.size, 13, none⟩ = some (.int .u32 (py : Int)) := BK.out.c 13 (by show 13 < 22; decide)
  have c14 : w1.cell? ⟨w.heap.size, 14, none⟩ = some (.int .u32 (op : Int)) := BK.out.c 14 (by show 14 < 22; decide)
  have c15 : w1.cell? ⟨w.heap.size, 15, none⟩ = some (.int .i64 fi) := BK.out.c 15 (by show 15 < 22; decide)
  have c16 : w1.cell? ⟨w.heap.size, 16, none⟩ = some (.int .u16 (fl : Int)) := BK.out.c 16 (by show 16 < 22; decide)
  have c17 : w1.cell? ⟨w.heap.size, 17, none⟩ = some (.int .u16 (ty : Int)) := BK.out.c 17 (by show 17 < 22; decide)
  have c18 : w1.cell? ⟨w.heap.size, 18, none⟩ = some (.int .u64 (ck : Int)) := BK.out.c 18 (by show 18 < 22; decide)
  have c19 : w1.cell? ⟨w.heap.size, 19, none⟩ = some (.int .u64 (of : Int)) := BK.out.c 19 (by show 19 < 22; decide)
  have c20 : w1.cell? ⟨w.heap.size, 20, none⟩ = some (.int .u64 (ln : Int)) := BK.out.c 20 (by show 20 < 22; decide)
  have c21 : w1.cell? ⟨w.heap.size, 21, none⟩ = some (.slice ao n cap) := BK.out.c 21 (by show 21 < 22; decide)
  go_wp2_with fail
  refine (HF.out _ (HT.out.later BB.out)).mono ?_
  rintro e w2 ⟨rfl, hbe⟩
  have BK2 : Hid (Bk w2 w.heap.size #[.string nm, .string ds, .int .i64 sec, .bool ro, .bool rt, .bool pv, .bool tr, .int .u32 (mn : Int), .int .u32 (pf : Int), .int .i64 ix, .bool st, .bool ex, .slice bo m bc, .int .u32 (py : Int), .int .u32 (op : Int), .int .i64 fi, .int .u16 (fl : Int), .int .u16 (ty : Int), .int .u64 (ck : Int), .int .u64 (of : Int), .int .u64 (ln : Int), .slice ao n cap] 38) := BK.out.later hbe
  have BB2 : Hid (Below w.heap.size w w2) := bcons BB.out hbe
  clear hbe HF BK BB c0 c1 c2 c3 c4 c5 c6 c7 c8 c9 c10 c11 c12 c13 c14 c15 c16 c17 c18 c19 c20 c21
  have c0 : w2.cell? ⟨w.heap.size, 0, none⟩ = some (.string nm) := BK2.out.c 0 (by show 0 < 22; decide)
  have c1 : w2.cell? ⟨w.heap.size, 1, none⟩ = some (.string ds) := BK2.out.c 1 (by show 1 < 22; decide)
  have c2 : w2.cell? ⟨w.heap.size, 2, none⟩ = some (.int .i64 sec) := BK2.out.c 2 (by show 2 < 22; decide)
  have c3 : w2.cell? ⟨w.heap.size, 3, none⟩ = some (.bool ro) := BK2.out.c 3 (by show 3 < 22; decide)
  have c4 : w2.cell? ⟨w.heap.size, 4, none⟩ = some (.bool rt) := BK2.out.c 4 (by show 4 < 22; decide)
  have c5 : w2.cell? ⟨w.heap.size, 5, none⟩ = some (.bool pv) := BK2.out.c 5 (by show 5 < 22; decide)
  have c6 : w2.cell? ⟨w.heap.size, 6, none⟩ = some (.bool tr) := BK2.out.c 6 (by show 6 < 22; decide)
  have c7 : w2.cell? ⟨w.heap.size, 7, none⟩ = some (.int .u32 (mn : Int)) := BK2.out.c 7 (by show 7 < 22; decide)
  have c8 : w2.cell? ⟨w.heap.size, 8, none⟩ = some (.int .u32 (pf : Int)) := BK2.out.c 8 (by show 8 < 22; decide)
  have c9 : w2.cell? ⟨w.heap.size, 9, none⟩ = some (.int .i64 ix) := BK2.out.c 9 (by show 9 < 22; decide)
  have c10 : w2.cell? ⟨w.heap.size, 10, none⟩ = some (.bool st) := BK2.out.c 10 (by show 10 < 22; decide)
  have c11 : w2.cell? ⟨w.heap.size, 11, none⟩ = some (.bool ex) := BK2.out.c 11 (by show 11 < 22; decide)
  have c12 : w2.cell? ⟨w.heap.size, 12, none⟩ = some (.slice bo m bc) := BK2.out.c 12 (by show 12 < 22; decide)
  have c13 : w2.cell? ⟨w.heap.size, 13, none⟩ = some (.int .u32 (py : Int)) := BK2.out.c 13 (by show 13 < 22; decide)
  have c14 : w2.cell? ⟨w.heap.size, 14, none⟩ = some (.int .u32 (op : Int)) := BK2.out.c 14 (by show 14 < 22; decide)
  have c15 : w2.cell? ⟨w.heap.size, 15, none⟩ = some (.int .i64 fi) := BK2.out.c 15 (by show 15 < 22; decide)
  have c16 : w2.cell? ⟨w.heap.size, 16, none⟩ = some (.int .u16 (fl : Int)) := BK2.out.c 16 (by show 16 < 22; decide)
  have c17 : w2.cell? ⟨w.heap.size, 17, none⟩ = some (.int .u16 (ty : Int)) := BK2.out.c 17 (by show 17 < 22; decide)
  have c18 : w2.cell? ⟨w.heap.size, 18, none⟩ = some (.int .u64 (ck : Int)) := BK2.out.c 18 (by show 18 < 22; decide)
  have c19 : w2.cell? ⟨w.heap.size, 19, none⟩ = some (.int .u64 (of : Int)) := BK2.out.c 19 (by show 19 < 22; decide)
  have c20 : w2.cell? ⟨w.heap.size, 20, none⟩ = some (.int .u64 (ln : Int)) := BK2.out.c 20 (by show 20 < 22; decide)
  have c21 : w2.cell? ⟨w.heap.size, 21, none⟩ = some (.slice ao n cap) := BK2.out.c 21 (by show 21 < 22; decide)
  obtain ⟨bq, hbq⟩ : ∃ bq, w2.heap.size = bq := ⟨_, rfl⟩
  have HQB : Hid (w.heap.size < bq) := by show w.heap.size < bq; rw [← hbq]; exact BK2.out.lt
  have HBQ : Hid (w2.heap.size = bq) := hbq
  have HO : Hid (∀ o, ((w2.alloc o).alloc (.cells #[] 5)).ownsRow (w2.heap.size + 1) 5 1 (.slice (some ⟨w2.heap.size + 1, 0, none⟩) 0 0) 0 []) := fun o => by
    have := World.ownsRow_lit (e := 5) (size := 1) (base := (w2.alloc o).heap.size) (w2.alloc o) #[] 0 (Nat.le_refl _) (Nat.zero_le _) rfl
    rw [World.size_alloc] at this
    exact this
  have HBr : Hid (∀ o o', BRow ((w2.alloc o).alloc o') ao cap l) := fun o o' => HB.out.later (bcons (bcons BB2.out (bnew _ o)) (bnew _ o'))
  have k21 : ∀ o o', ((w2.alloc o).alloc o').cell? ⟨w.heap.size, 21, none⟩ = some (.slice ao n cap) := fun o o' => ((BK2.out.alloc o).alloc o').c 21 (by show 21 < 22; decide)
  clear hbq
  go_upto_region 4 with fail
  go_wp2_with (at_builtin; refine wpList_append_two _ rfl (.tmp 28) (.tmp 31) 34 rfl (w2.heap.size + 1) 5 i0 (.int .u8 0) 1 Tryd.underlying34 hi hz0 hz1 hz2 rfl _ 0 [] rfl (HO.out _) ao n cap (l.map bv) rfl (fun e => by have h := HB.out.nil e; exact ⟨by rw [← HLn.out, h.1]; rfl, h.2⟩) (by rw [List.length_map]; exact HLn.out) (HBr.out _ _).news (bv_one l) (by unfold maxLen; omega) (by omega) (by simp) ?_)
  intro v' w3 ho hg hf
  have ho' : w3.ownsRow (w2.heap.size + 1) 5 1 v' n (l.map bv) := by simpa using ho
  clear ho
  obtain ⟨vo, vc, rfl⟩ := owns_form ho'
  have hq0 := HQB.out
  have hsq := HBQ.out
  rw [← hsq] at hq0
  have BX3 : Bk w3 w.heap.size #[.string nm, .string ds, .int .i64 sec, .bool ro, .bool rt, .bool pv, .bool tr, .int .u32 (mn : Int), .int .u32 (pf : Int), .int .i64 ix, .bool st, .bool ex, .slice bo m bc, .int .u32 (py : Int), .int .u32 (op : Int), .int .i64 fi, .int .u16 (fl : Int), .int .u16 (ty : Int), .int .u64 (ck : Int), .int .u64 (of : Int), .int .u64 (ln : Int), .slice ao n cap] 38 := (hg.block _ (by have := BK2.out.lt; simp; omega) (by simp [Value.ownBlock]; omega)).trans ((BK2.out.alloc _).alloc _)
  have BQ3 : Bk w3 w2.heap.size #[.int .u16 (fl : Int), .int .u16 (ty : Int), .int .u64 (ck : Int), .int .u64 (of : Int), .int .u64 (ln : Int), .slice ao n cap] 36 := (hg.block _ (by simp; omega) (by simp [Value.ownBlock])).trans ((Bk.new w2 #[.int .u16 (fl : Int), .int .u16 (ty : Int), .int .u64 (ck : Int), .int .u64 (of : Int), .int .u64 (ln : Int), .slice ao n cap] 36).alloc (.cells #[] 5))
  have BB3 : Below w.heap.size w w3 := (bcons (bcons BB2.out (bnew _ _)) (bnew _ _)).grown hg (by simp; omega) (by intro k hk; simp [Value.ownBlock] at hk; omega)
  have HC0 : Hid (Ck w (w3.setCell ⟨w2.heap.size, 5, none⟩ (.slice vo n vc)) w2.heap.size vo vc (.int .u64 (ck : Int)) nm ds sec ro rt pv tr mn pf ix st ex bo m bc py op fi fl ty ck of ln ao n cap) :=
    ⟨below_put BB3 (by omega), BX3.other (by omega), BQ3.set 5 (.slice vo n vc), ⟨l, HLn.out, HB.out.lt, owns_same ho' (fun g hg => Below.heap_setCell _ _ _ _ (by have := (owns_lt ho' g hg).2; show g ≠ w2.heap.size; omega))⟩, hq0, HT.out⟩
  have f5 := BQ3.free 5
  have q5 : w3.cell? ⟨w2.heap.size, 5, none⟩ = some (.slice ao n cap) := BQ3.c 5 (by show 5 < 6; decide)
  clear BX3 BQ3 BB3 ho' hg hf HO HBr k21 hq0 hsq HQB HBQ BB2 BK2 c0 c1 c2 c3 c4 c5 c6 c7 c8 c9 c10 c11 c12 c13 c14 c15 c16 c17 c18 c19 c20 c21
  generalize w2.heap.size = bq at *
  go_wp2
  go_loopw [6] (fun iv wr => ∃ i : Nat, i ≤ n ∧ iv = .int .i64 i ∧ Ck w wr bq vo vc (.int .u64 (ck : Int)) nm ds sec ro rt pv tr mn pf ix st ex bo m bc py op fi fl ty ck of ln ao n cap) (fun iv _ => n - (intOf iv).toNat)
  case atStart => exact ⟨0, Nat.zero_le _, rfl, HC0.out⟩
  case round =>
    obtain ⟨i, hin, rfl, hC⟩ := hrel
    have HC : Hid (Ck w wr bq vo vc (.int .u64 (ck : Int)) nm ds sec ro rt pv tr mn pf ix st ex bo m bc py op fi fl ty ck of ln ao n cap) := hC
    have q5 : wr.cell? ⟨bq, 5, none⟩ = some (.slice vo n vc) := hC.q.c 5 (by show 5 < 6; decide)
    clear hC HC0
    by_cases hlt : i < n
    · obtain ⟨g, rfl, ⟨y, hy, hcy⟩, hfz, hnv, hvm, hst⟩ := HC.out.put i hlt
      have HSt : Hid (∀ y : Nat, y < 256 → Ck w (wr.setCell ⟨g, i, none⟩ (.int .u8 (y : Int))) bq (some ⟨g, 0, none⟩) vc (.int .u64 (ck : Int)) nm ds sec ro rt pv tr mn pf ix st ex bo m bc py op fi fl ty ck of ln ao n cap) := hst
      clear hst
      have hl1 : (i : Int) < (n : Int) := by omega
      go_wp2
      go_region
      all_goals go_wp2_with fail
      refine ⟨⟨i + 1, by omega, by go_num, ?_⟩, ?_⟩
      · have := HSt.out ((y + 1) % 256) (by omega)
        rw [show (((y + 1) % 256 : Nat) : Int) = ((y : Int) + 1) % 256 by omega] at this
        exact this.drew
      · simp [intOf]; omega
    · obtain rfl : n = i := by omega
      have f2 := HC.out.q.free 2
      have q2 : wr.cell? ⟨bq, 2, none⟩ = some (.int .u64 (ck : Int)) := HC.out.q.c 2 (by show 2 < 6; decide)
      go_upto_region 10 with fail
      obtain ⟨kz, hkz⟩ : ∃ kz : Nat, bits BinOp.xor IntKind.u64 (if IntKind.u64.signed = true then -1 else IntKind.u64.max) (ck : Int) = (kz : Int) := Int.eq_ofNat_of_zero_le (bounds_u64 (wf_bits _ _ _ _)).1
      rw [hkz]
      obtain ⟨wd, hwd⟩ : ∃ wd, wr.setCell ⟨bq, 2, none⟩ (.int .u64 (kz : Int)) = wd := ⟨_, rfl⟩
      have HD : Hid (Ck w wd bq vo vc (.int .u64 (kz : Int)) nm ds sec ro rt pv tr mn pf ix st ex bo m bc py op fi fl ty ck of ln ao n cap) := by rw [← hwd]; exact HC.out.cv _
      rw [hwd]
      clear hwd hkz f2 q2 q5 HC
      have c0 : wd.cell? ⟨w.heap.size, 0, none⟩ = some (.string nm) := HD.out.x.c 0 (by show 0 < 22; decide)
      have c1 : wd.cell? ⟨w.heap.size, 1, none⟩ = some (.string ds) := HD.out.x.c 1 (by show 1 < 22; decide)
      have c2 : wd.cell? ⟨w.heap.size, 2, none⟩ = some (.int .i64 sec) := HD.out.x.c 2 (by show 2 < 22; decide)
      have c3 : wd.cell? ⟨w.heap.size, 3, none⟩ = some (.bool ro) := HD.out.x.c 3 (by show 3 < 22; decide)
      have c4 : wd.cell? ⟨w.heap.size, 4, none⟩ = some (.bool rt) := HD.out.x.c 4 (by show 4 < 22; decide)
      have c5 : wd.cell? ⟨w.heap.size, 5, none⟩ = some (.bool pv) := HD.out.x.c 5 (by show 5 < 22; decide)
      have c6 : wd.cell? ⟨w.heap.size, 6, none⟩ = some (.bool tr) := HD.out.x.c 6 (by show 6 < 22; decide)
      have c7 : wd.cell? ⟨w.heap.size, 7, none⟩ = some (.int .u32 (mn : Int)) := HD.out.x.c 7 (by show 7 < 22; decide)
      have c8 : wd.cell? ⟨w.heap.size, 8, none⟩ = some (.int .u32 (pf : Int)) := HD.out.x.c 8 (by show 8 < 22; decide)
      have c9 : wd.cell? ⟨w.heap.size, 9, none⟩ = some (.int .i64 ix) := HD.out.x.c 9 (by show 9 < 22; decide)
      have c10 : wd.cell? ⟨w.heap.size, 10, none⟩ = some (.bool st) := HD.out.x.c 10 (by show 10 < 22; decide)
      have c11 : wd.cell? ⟨w.heap.size, 11, none⟩ = some (.bool ex) := HD.out.x.c 11 (by show 11 < 22; decide)
      have c12 : wd.cell? ⟨w.heap.size, 12, none⟩ = some (.slice bo m bc) := HD.out.x.c 12 (by show 12 < 22; decide)
      have c13 : wd.cell? ⟨w.heap.size, 13, none⟩ = some (.int .u32 (py : Int)) := HD.out.x.c 13 (by show 13 < 22; decide)
      have c14 : wd.cell? ⟨w.heap.size, 14, none⟩ = some (.int .u32 (op : Int)) := HD.out.x.c 14 (by show 14 < 22; decide)
      have c15 : wd.cell? ⟨w.heap.size, 15, none⟩ = some (.int .i64 fi) := HD.out.x.c 15 (by show 15 < 22; decide)
      have q0 : wd.cell? ⟨bq, 0, none⟩ = some (.int .u16 (fl : Int)) := HD.out.q.c 0 (by show 0 < 6; decide)
      have q1 : wd.cell? ⟨bq, 1, none⟩ = some (.int .u16 (ty : Int)) := HD.out.q.c 1 (by show 1 < 6; decide)
      have q2 : wd.cell? ⟨bq, 2, none⟩ = some (.int .u64 (kz : Int)) := HD.out.q.c 2 (by show 2 < 6; decide)
      have q3 : wd.cell? ⟨bq, 3, none⟩ = some (.int .u64 (of : Int)) := HD.out.q.c 3 (by show 3 < 6; decide)
      have q4 : wd.cell? ⟨bq, 4, none⟩ = some (.int .u64 (ln : Int)) := HD.out.q.c 4 (by show 4 < 6; decide)
      have q5 : wd.cell? ⟨bq, 5, none⟩ = some (.slice vo n vc) := HD.out.q.c 5 (by show 5 < 6; decide)
      go_wp2_with fail
      refine (HF2.out kz vo vc _ HD.out.t).mono ?_
      rintro e w5 ⟨rfl, hbe⟩
      have BB5 : Hid (Below w.heap.size w w5) := bcons HD.out.bel hbe
      have TT5 : Hid (Tb w5) := HT.out.later BB5.out
      clear hbe HD c0 c1 c2 c3 c4 c5 c6 c7 c8 c9 c10 c11 c12 c13 c14 c15 q0 q1 q2 q3 q4 q5
      go_wp2_with fail
      refine (HH.out _ TT5.out).mono ?_
      rintro e w6 ⟨rfl, hbe⟩
      have BB6 : Hid (Below w.heap.size w w6) := bcons BB5.out hbe
      clear hbe
      go_wp2
      go_ret
      exact ⟨rfl, BB6.out⟩
end Go.Proofs.YtodinademhibjaaDoor
