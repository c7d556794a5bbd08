import Derived.Test.YtefgdhoapmikhaaDoorRpN
import Derived.Lib.SlBytesConst
namespace Go.Proofs.YtefgdhoapmikhaaDoor
open Go.RowKit
set_option linter.unusedVariables false
set_option linter.unusedSimpArgs false
set_option maxRecDepth 100000
/-- what the law's own outcome is, in memory -/
structure Al (w W : World) : Prop where
  bel : Below w.heap.size w W
  q : W.heap[w.heap.size]? = some (.cells #[.int .u16 0, .int .u16 0, .int .u64 7, .int .u64 0, .int .u64 3, .slice none 0 0] 29 (0, 0))
  d : W.heap[w.heap.size + 1]? = some (.cells #[.int .u8 97, .int .u8 98] 5 (2, 3))
  p : W.heap[w.heap.size + 1 + 1]? = some (.cells #[.int .u64 0, .int .u32 1, .bool true, .slice none 0 0, .int .u64 1, .int .u32 2, .bool false, .slice (some ⟨w.heap.size + 1, 0, none⟩) 2 2] 62 (0, 0))
  o : W.heap[w.heap.size + 1 + 1 + 1]? = some (.cells #[.int .u32 0, .bool false, .int .u64 0, .slice (some ⟨w.heap.size + 1 + 1, 0, none⟩) 2 2, .slice none 0 0] 34 (0, 0))
  size : w.heap.size + 4 ≤ W.heap.size
theorem Al.later {w W W' : World} (h : Al w W) (k : Below W.heap.size W W') : Al w W' := by
  have hs := h.size
  exact ⟨h.bel.trans (k.mono h.bel.size), by rw [k.block _ (by omega)]; exact h.q, by rw [k.block _ (by omega)]; exact h.d, by rw [k.block _ (by omega)]; exact h.p, by rw [k.block _ (by omega)]; exact h.o, Nat.le_trans hs k.size⟩
theorem Al.new (w : World) : Al w ((((w.alloc (Obj.cells #[.int .u16 0, .int .u16 0, .int .u64 7, .int .u64 0, .int .u64 3, .slice none 0 0] 29)).alloc (Obj.cells #[.int .u8 97, .int .u8 98] 5 (2, 3))).alloc (Obj.cells #[.int .u64 0, .int .u32 1, .bool true, .slice none 0 0, .int .u64 1, .int .u32 2, .bool false, .slice (some ⟨w.heap.size + 1, 0, none⟩) 2 2] 62)).alloc (Obj.cells #[.int .u32 0, .bool false, .int .u64 0, .slice (some ⟨w.heap.size + 1 + 1, 0, none⟩) 2 2, .slice none 0 0] 34)) := by
  have e1 := size1 w (Obj.cells #[.int .u16 0, .int .u16 0, .int .u64 7, .int .u64 0, .int .u64 3, .slice none 0 0] 29)
  have n1 := heap_new w (Obj.cells #[.int .u16 0, .int .u16 0, .int .u64 7, .int .u64 0, .int .u64 3, .slice none 0 0] 29)
  have b1 := below1 w (Obj.cells #[.int .u16 0, .int .u16 0, .int .u64 7, .int .u64 0, .int .u64 3, .slice none 0 0] 29)
  generalize w.alloc (Obj.cells #[.int .u16 0, .int .u16 0, .int .u64 7, .int .u64 0, .int .u64 3, .slice none 0 0] 29) = W1 at *
  have e2 := size1 W1 (Obj.cells #[.int .u8 97, .int .u8 98] 5 (2, 3))
  have n2 := heap_new W1 (Obj.cells #[.int .u8 97, .int .u8 98] 5 (2, 3))
  have b2 := below1 W1 (Obj.cells #[.int .u8 97, .int .u8 98] 5 (2, 3))
  generalize W1.alloc (Obj.cells #[.int .u8 97, .int .u8 98] 5 (2, 3)) = W2 at *
  have e3 := size1 W2 (Obj.cells #[.int .u64 0, .int .u32 1, .bool true, .slice none 0 0, .int .u64 1, .int .u32 2, .bool false, .slice (some ⟨w.heap.size + 1, 0, none⟩) 2 2] 62)
  have n3 := heap_new W2 (Obj.cells #[.int .u64 0, .int .u32 1, .bool true, .slice none 0 0, .int .u64 1, .int .u32 2, .bool false, .slice (some ⟨w.heap.size + 1, 0, none⟩) 2 2] 62)
  have b3 := below1 W2 (Obj.cells #[.int .u64 0, .int .u32 1, .bool true, .slice none 0 0, .int .u64 1, .int .u32 2, .bool false, .slice (some ⟨w.heap.size + 1, 0, none⟩) 2 2] 62)
  generalize W2.alloc (Obj.cells #[.int .u64 0, .int .u32 1, .bool true, .slice none 0 0, .int .u64 1, .int .u32 2, .bool false, .slice (some ⟨w.heap.size + 1, 0, none⟩) 2 2] 62) = W3 at *
  have e4 := size1 W3 (Obj.cells #[.int .u32 0, .bool false, .int .u64 0, .slice (some ⟨w.heap.size + 1 + 1, 0, none⟩) 2 2, .slice none 0 0] 34)
  have n4 := heap_new W3 (Obj.cells #[.int .u32 0, .bool false, .int .u64 0, .slice (some ⟨w.heap.size + 1 + 1, 0, none⟩) 2 2, .slice none 0 0] 34)
  have b4 := below1 W3 (Obj.cells #[.int .u32 0, .bool false, .int .u64 0, .slice (some ⟨w.heap.size + 1 + 1, 0, none⟩) 2 2, .slice none 0 0] 34)
  generalize W3.alloc (Obj.cells #[.int .u32 0, .bool false, .int .u64 0, .slice (some ⟨w.heap.size + 1 + 1, 0, none⟩) 2 2, .slice none 0 0] 34) = W4 at *
  rw [e1] at n2
  rw [e2, e1] at n3
  rw [e3, e2, e1] at n4
  refine ⟨((b1.trans (b2.mono (by omega))).trans (b3.mono (by omega))).trans (b4.mono (by omega)), ?_, ?_, ?_, n4, by omega⟩
  · rw [b4.block _ (by omega), b3.block _ (by omega), b2.block _ (by omega)]; exact n1
  · rw [b4.block _ (by omega), b3.block _ (by omega)]; exact n2
  · rw [b4.block _ (by omega)]; exact n3
def alP (w : World) : List Pc := [⟨0, 1, true, none, 0, 0⟩, ⟨1, 2, false, some ⟨w.heap.size + 1, 0, none⟩, 2, 2⟩]
def alD (p : Pc) : List Nat := if p.hole = true then [] else [97, 98]
theorem Al.prow {w W : World} (h : Al w W) : PRow W (some ⟨w.heap.size + 1 + 1, 0, none⟩) (alP w) := by
  refine ⟨fun p hp => ?_, by simp [alP], fun _ => ⟨_, _, rfl, fun k hk j hj => ?_⟩⟩
  · simp [alP] at hp
    rcases hp with rfl | rfl <;> (refine ⟨?_, ?_, ?_⟩ <;> simp)
  · rw [blk_at h.p]
    simp [alP] at hk
    rcases (show k = 0 ∨ k = 1 by omega) with rfl | rfl <;> rcases (show j = 0 ∨ j = 1 ∨ j = 2 ∨ j = 3 by omega) with rfl | rfl | rfl | rfl <;> rfl
theorem Al.data {w W : World} (h : Al w W) : ∀ p ∈ alP w, (alD p).length = p.n ∧ BRow W p.ao p.cap (alD p) := by
  intro p hp
  simp [alP] at hp
  rcases hp with rfl | rfl
  · exact ⟨rfl, ⟨by simp [alD], by simp [alD], fun _ => ⟨rfl, rfl⟩, fun h => absurd rfl h⟩⟩
  · refine ⟨rfl, ⟨by simp [alD], by simp [alD], (fun h => by cases h), fun _ => ⟨_, _, rfl, fun k hk => ?_⟩⟩⟩
    rw [blk_at h.d]
    simp [alD] at hk
    rcases (show k = 0 ∨ k = 1 by omega) with rfl | rfl <;> rfl
theorem Al.lrow (W : World) : LRow W none [] := ⟨by simp, by simp, fun h => absurd rfl h⟩
theorem al_pie (w : World) : pieB 0 3 0 (alP w) = true := by simp [pieB, pcB, alP]
theorem al_fit (w : World) (st : Bool) : fitB12 st false 0 0 0 3 0 false 0 (alP w) [] = true := by
  simp [fitB12, al_pie]
theorem al_fits {w W : World} (h : Al w W) (st : Bool) : ∀ W', Below W.heap.size W W' → Calls Tryd.prog 10 #[.agg #[.int .i64 0, .bool st, .bool false, .slice none 0 0], .agg #[.int .u16 0, .int .u16 0, .int .u64 7, .int .u64 0, .int .u64 3, .slice none 0 0], .agg #[.int .u32 0, .bool false, .int .u64 0, .slice (some ⟨w.heap.size + 1 + 1, 0, none⟩) 2 2, .slice none 0 0]] W' fun e w' => e = .returned (.int .i64 0) ∧ Below W'.heap.size W' w' := by
  intro W' hb
  have := Fits_any 0 st false none 0 0 0 0 7 0 3 (.slice none 0 0) 0 false 0 (some ⟨w.heap.size + 1 + 1, 0, none⟩) 2 (alP w) none 0 [] W' (by decide) (by decide) ((h.later hb).prow) (Al.lrow W') (by decide) (by decide) (by decide) (by decide)
  rw [al_fit] at this
  exact this
def alB : List Nat := sL 0 7 ++ [0, 97, 98]
theorem al_bytes {w W : World} (h : Al w W) : Calls Tryd.prog 22 #[.agg #[.int .i64 0, .bool false, .bool false, .slice none 0 0], .agg #[.int .u16 0, .int .u16 0, .int .u64 7, .int .u64 0, .int .u64 3, .slice none 0 0], .agg #[.int .u32 0, .bool false, .int .u64 0, .slice (some ⟨w.heap.size + 1 + 1, 0, none⟩) 2 2, .slice none 0 0]] W fun e w' => ∃ ao cap, e = .returned (.tuple #[.slice ao 19 cap, .int .i64 0]) ∧ Row W w' ao cap alB := by
  have hr : rowL alD (alP w) = [0, 97, 98] := rfl
  refine bytes_sim 0 false false none 0 0 0 0 7 0 3 (.slice none 0 0) 0 false 0 (some ⟨w.heap.size + 1 + 1, 0, none⟩) 2 2 none 0 0 W alB (al_fits h false) (by decide) rfl (fun W' hb => ?_)
  exact sbytes_some 0 0 7 0 3 (.slice none 0 0) 0 false 0 (some ⟨w.heap.size + 1 + 1, 0, none⟩) 2 2 none 0 0 W' [0, 97, 98] (by decide) (by decide) (fun W2 hb2 => hr ▸ sdata_read 0 0 7 0 3 (.slice none 0 0) 0 false 0 (some ⟨w.heap.size + 1 + 1, 0, none⟩) 2 none 0 0 (alP w) alD W2 ((h.later hb).later hb2).prow (by decide) (by decide) (al_pie w) ((h.later hb).later hb2).data rfl rfl) (by decide)
theorem al_chunks {w W : World} (h : Al w W) : Calls Tryd.prog 19 #[.agg #[.int .i64 0, .bool true, .bool false, .slice none 0 0], .agg #[.int .u16 0, .int .u16 0, .int .u64 7, .int .u64 0, .int .u64 3, .slice none 0 0], .agg #[.int .u32 0, .bool false, .int .u64 0, .slice (some ⟨w.heap.size + 1 + 1, 0, none⟩) 2 2, .slice none 0 0]] W fun e w' => ∃ g cap L, e = .returned (.tuple #[.slice (some ⟨g, 0, none⟩) L.length cap, .int .i64 0]) ∧ Cks W w' (.slice (some ⟨g, 0, none⟩) L.length cap) L ∧ L.map Ck.say = doneS ((alP w).map (pcS 7 0 alD)) ∧ Below W.heap.size W w' := by
  refine Chunks_ok 0 true false none 0 0 0 0 7 0 3 (.slice none 0 0) 0 false 0 (some ⟨w.heap.size + 1 + 1, 0, none⟩) 2 2 none 0 0 W _ (al_fits h true) (by decide) rfl (fun W' hb => ?_)
  refine chunks_read 0 true false none 0 0 0 0 7 0 3 (.slice none 0 0) 0 false 0 (some ⟨w.heap.size + 1 + 1, 0, none⟩) 2 2 none 0 0 W' _ (by simp [alP]) (by simp [alP]) rfl rfl (by decide) (fun W2 hb2 => ?_)
  exact read_some 0 true false none 0 0 0 0 7 0 3 (.slice none 0 0) 0 false 0 (w.heap.size + 1 + 1) 0 2 2 none 0 0 W2 (alP w) alD ((h.later hb).later hb2).prow rfl (by decide) 0 rfl ((h.later hb).later hb2).data (fun p hp _ => by simp [alP] at hp; rcases hp with rfl | rfl <;> simp_all)
/-- the two chunks, read off -/
theorem al_cells {w W W' : World} {g cap : Nat} {L : List Ck} (hc : Cks W W' (.slice (some ⟨g, 0, none⟩) L.length cap) L) (hs : L.map Ck.say = doneS ((alP w).map (pcS 7 0 alD))) : L.length = 2 ∧ W'.cell? ⟨g, 1, none⟩ = some (.int .u16 2) ∧ W'.cell? ⟨g, 5, none⟩ = some (.int .u16 1) := by
  have hl : L.length = 2 := by have := congrArg List.length hs; simpa [alP, doneS] using this
  match L, hl with
  | [a, b], _ =>
    simp [alP, doneS, pcS, Ck.say] at hs
    rcases hc.own.2 with ⟨h0, _⟩ | ⟨g', cap', cur, hv, hb, hcur, h1, h2, h3, h4⟩
    · simp at h0
    · simp at hv
      obtain ⟨rfl, rfl⟩ := hv
      have e : ∀ j, j < 10 → W'.cell? ⟨g, j, none⟩ = (a.cells ++ b.cells)[j]? := by
        intro j hj
        rw [blk_at hcur, ← Array.getElem?_toList]
        have := congrArg (·[j]?) h4
        simp only [List.getElem?_take] at this
        rw [if_pos (by simpa using hj)] at this
        simpa using this
      refine ⟨rfl, ?_, ?_⟩
      · rw [e 1 (by decide)]; simp [Ck.cells, hs.1.2.1]
      · rw [e 5 (by decide)]; simp [Ck.cells, hs.2.1]
set_option maxHeartbeats 1000000 in
theorem num_any (e : Int) (w : World) : Calls Tryd.prog 9 #[.int .i64 e] w fun r w' => r = .returned (.int .i64 e) ∧ w' = w := by
  go_enter Tryd.func9, Tryd.ntmps9
  go_wp2
  go_ret
  exact ⟨rfl, rfl⟩
set_option maxHeartbeats 2000000 in
theorem alive_any (w : World) : Calls Tryd.prog 14 #[] w fun e w' => e = .returned (.bool true) ∧ Below w.heap.size w w' := by
  have kc : (convert 27 27 (.slice (some ⟨w.heap.size + 1, 0, none⟩) 2 2)).run Tryd.prog ((w.alloc (Obj.cells #[.int .u16 0, .int .u16 0, .int .u64 7, .int .u64 0, .int .u64 3, .slice none 0 0] 29)).alloc (.cells #[.int .u8 97, .int .u8 98] 5)) = .ok (.slice (some ⟨w.heap.size + 1, 0, none⟩) 2 2) ((w.alloc (Obj.cells #[.int .u16 0, .int .u16 0, .int .u64 7, .int .u64 0, .int .u64 3, .slice none 0 0] 29)).alloc (.cells #[.int .u8 97, .int .u8 98] 5 (2, 3))) := by
    have := Lib.run_convert_bytes_const (P := Tryd.prog) (w.alloc (Obj.cells #[.int .u16 0, .int .u16 0, .int .u64 7, .int .u64 0, .int .u64 3, .slice none 0 0] 29)) 27 5 #[.int .u8 97, .int .u8 98] 2 2 Tryd.underlying27 Tryd.underlying5
    rwa [size1] at this
  have HBy : Hid (∀ W, Al w W → Calls Tryd.prog 22 #[.agg #[.int .i64 0, .bool false, .bool false, .slice none 0 0], .agg #[.int .u16 0, .int .u16 0, .int .u64 7, .int .u64 0, .int .u64 3, .slice none 0 0], .agg #[.int .u32 0, .bool false, .int .u64 0, .slice (some ⟨w.heap.size + 1 + 1, 0, none⟩) 2 2, .slice none 0 0]] W fun e w' => ∃ ao cap, e = .returned (.tuple #[.slice ao 19 cap, .int .i64 0]) ∧ Row W w' ao cap alB) := fun W h => al_bytes h
  have HCh : Hid (∀ W, Al w W → Calls Tryd.prog 19 #[.agg #[.int .i64 0, .bool true, .bool false, .slice none 0 0], .agg #[.int .u16 0, .int .u16 0, .int .u64 7, .int .u64 0, .int .u64 3, .slice none 0 0], .agg #[.int .u32 0, .bool false, .int .u64 0, .slice (some ⟨w.heap.size + 1 + 1, 0, none⟩) 2 2, .slice none 0 0]] W fun e w' => ∃ g cap L, e = .returned (.tuple #[.slice (some ⟨g, 0, none⟩) L.length cap, .int .i64 0]) ∧ Cks W w' (.slice (some ⟨g, 0, none⟩) L.length cap) L ∧ L.map Ck.say = doneS ((alP w).map (pcS 7 0 alD)) ∧ Below W.heap.size W w') := fun W h => al_chunks h
  go_enter Tryd.func14, Tryd.ntmps14
  go_wp2_with fail
  have hx := Al.new w
  generalize ((((w.alloc (Obj.cells #[.int .u16 0, .int .u16 0, .int .u64 7, .int .u64 0, .int .u64 3, .slice none 0 0] 29)).alloc (Obj.cells #[.int .u8 97, .int .u8 98] 5 (2, 3))).alloc (Obj.cells #[.int .u64 0, .int .u32 1, .bool true, .slice none 0 0, .int .u64 1, .int .u32 2, .bool false, .slice (some ⟨w.heap.size + 1, 0, none⟩) 2 2] 62)).alloc (Obj.cells #[.int .u32 0, .bool false, .int .u64 0, .slice (some ⟨w.heap.size + 1 + 1, 0, none⟩) 2 2, .slice none 0 0] 34)) = W0 at *
  refine (HBy.out _ hx).mono ?_
  rintro e W1 ⟨ao, cap, rfl, hr⟩
  have hy := hx.later hr.bel
  have q0 : W1.cell? ⟨w.heap.size, 0, none⟩ = some (.int .u16 0) := by rw [blk_at hy.q]; rfl
  have q1 : W1.cell? ⟨w.heap.size, 1, none⟩ = some (.int .u16 0) := by rw [blk_at hy.q]; rfl
  have q2 : W1.cell? ⟨w.heap.size, 2, none⟩ = some (.int .u64 7) := by rw [blk_at hy.q]; rfl
  have q3 : W1.cell? ⟨w.heap.size, 3, none⟩ = some (.int .u64 0) := by rw [blk_at hy.q]; rfl
  have q4 : W1.cell? ⟨w.heap.size, 4, none⟩ = some (.int .u64 3) := by rw [blk_at hy.q]; rfl
  have q5 : W1.cell? ⟨w.heap.size, 5, none⟩ = some (.slice none 0 0) := by rw [blk_at hy.q]; rfl
  have o0 : W1.cell? ⟨w.heap.size + 1 + 1 + 1, 0, none⟩ = some (.int .u32 0) := by rw [blk_at hy.o]; rfl
  have o1 : W1.cell? ⟨w.heap.size + 1 + 1 + 1, 1, none⟩ = some (.bool false) := by rw [blk_at hy.o]; rfl
  have o2 : W1.cell? ⟨w.heap.size + 1 + 1 + 1, 2, none⟩ = some (.int .u64 0) := by rw [blk_at hy.o]; rfl
  have o3 : W1.cell? ⟨w.heap.size + 1 + 1 + 1, 3, none⟩ = some (.slice (some ⟨w.heap.size + 1 + 1, 0, none⟩) 2 2) := by rw [blk_at hy.o]; rfl
  have o4 : W1.cell? ⟨w.heap.size + 1 + 1 + 1, 4, none⟩ = some (.slice none 0 0) := by rw [blk_at hy.o]; rfl
  have HY : Hid (Al w W1) := hy
  have HR : Hid (Row W0 W1 ao cap alB) := hr
  clear hx hy hr HBy kc
  go_wp2_with fail
  refine (HCh.out _ HY.out).mono ?_
  rintro e W2 ⟨g, cp, L, rfl, hck, hsay, hbe⟩
  obtain ⟨hl, t1, t5⟩ := al_cells hck hsay
  rw [hl]
  have hb2 : BRow W2 ao cap alB := (HR.out.brow (by decide)).later hbe
  obtain ⟨bb, bo, rfl, hcell⟩ := hb2.at_ (by decide)
  have b0 := hcell 0 (by decide)
  have b15 := hcell 15 (by decide)
  have b16 := hcell 16 (by decide)
  have b18 := hcell 18 (by decide)
  rw [show alB[0]'(by decide) = 103 by decide] at b0
  rw [show alB[15]'(by decide) = 7 by decide] at b15
  rw [show alB[16]'(by decide) = 0 by decide] at b16
  rw [show alB[18]'(by decide) = 98 by decide] at b18
  simp only [bv, Nat.add_zero] at b0 b15 b16 b18
  have HB : Hid (Below w.heap.size w W2) := (HY.out.later hbe).bel
  have HNm : Hid (∀ e W, Calls Tryd.prog 9 #[.int .i64 e] W fun r w' => r = .returned (.int .i64 e) ∧ w' = W) := num_any
  clear hck hsay hbe hb2 hcell HCh hl HR HY q0 q1 q2 q3 q4 q5 o0 o1 o2 o3 o4
  go_wp2_with fail
  refine (HNm.out _ _).mono ?_
  rintro e W3 ⟨rfl, rfl⟩
  go_wp2_with fail
  refine (HNm.out _ _).mono ?_
  rintro e W4 ⟨rfl, rfl⟩
  go_wp2
  go_ret
  exact ⟨rfl, HB.out⟩
end Go.Proofs.YtefgdhoapmikhaaDoor
