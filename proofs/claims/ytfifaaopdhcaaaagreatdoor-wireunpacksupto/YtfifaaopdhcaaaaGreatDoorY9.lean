import Derived.Test.YtfifaaopdhcaaaaGreatDoorY8
namespace Go.Proofs.YtfifaaopdhcaaaaGreatDoor
open Go.RowKit
set_option linter.unusedVariables false
set_option linter.unusedSimpArgs false
set_option maxRecDepth 100000

abbrev TRg : TypeId := 164
/-- a reading without a head: the bytes were too few -/
structure Nh (W : World) (r : Nat) (n : Int) : Prop where
  blk : W.heap[r]? = some (.cells #[.pointer none, .slice none 0 0, .int .i64 0, .int .i64 n, .int .i64 10] TRg (0, 0))
theorem Nh.c {W : World} {r : Nat} {n : Int} (h : Nh W r n) (j : Nat) : W.cell? ⟨r, j, none⟩ = (#[.pointer none, .slice none 0 0, .int .i64 0, .int .i64 n, .int .i64 10] : Array Value)[j]? := blk_at h.blk j
/-- a message that is being read: the boxes bs, all of them below c; the reading r over the head at h -/
structure Dec (w W : World) (bs : List (Nat × Obj)) (c r h : Nat) (ao : Option Addr) (cap : Nat) (hl : List Nat) (at_ : Nat) (bh : Value) (ln n er : Int) : Prop where
  bel : Below w.heap.size w W
  box : ∀ x ∈ bs, W.heap[x.1]? = some x.2 ∧ w.heap.size ≤ x.1 ∧ x.1 < c
  nd : (bs.map (·.1)).Nodup
  rd : W.heap[r]? = some (.cells #[.pointer (some ⟨h, 0, none⟩), bh, .int .i64 ln, .int .i64 n, .int .i64 er] TRg (0, 0))
  hd : ROk W c h ao cap hl at_
  hr : c ≤ r
  hc : w.heap.size ≤ c
theorem Dec.c {w W : World} {bs : List (Nat × Obj)} {c r h : Nat} {ao : Option Addr} {cap : Nat} {hl : List Nat} {at_ : Nat} {bh : Value} {ln n er : Int} (H : Dec w W bs c r h ao cap hl at_ bh ln n er) (j : Nat) : W.cell? ⟨r, j, none⟩ = (#[.pointer (some ⟨h, 0, none⟩), bh, .int .i64 ln, .int .i64 n, .int .i64 er] : Array Value)[j]? := blk_at H.rd j
theorem Dec.f {w W : World} {bs : List (Nat × Obj)} {c r h : Nat} {ao : Option Addr} {cap : Nat} {hl : List Nat} {at_ : Nat} {bh : Value} {ln n er : Int} (H : Dec w W bs c r h ao cap hl at_ bh ln n er) (j : Nat) : W.frozen? ⟨r, j, none⟩ = false := blk_free H.rd j
theorem Dec.ne {w W : World} {bs : List (Nat × Obj)} {c r h : Nat} {ao : Option Addr} {cap : Nat} {hl : List Nat} {at_ : Nat} {bh : Value} {ln n er : Int} (H : Dec w W bs c r h ao cap hl at_ bh ln n er) : r ≠ h := by
  rintro rfl
  have := H.rd.symm.trans H.hd.blk
  simp at this
theorem Dec.nv {w W : World} {bs : List (Nat × Obj)} {c r h : Nat} {ao : Option Addr} {cap : Nat} {hl : List Nat} {at_ : Nat} {bh : Value} {ln n er : Int} (H : Dec w W bs c r h ao cap hl at_ bh ln n er) : (Value.slice ao hl.length cap).ownBlock ≠ some r := by
  intro e
  obtain ⟨cur, hc⟩ := owns_type H.hd.own r e
  have := H.rd.symm.trans hc
  simp at this
  exact absurd this.2 (by decide)
/-- the head was read -/
theorem Dec.moved {w W W' : World} {bs : List (Nat × Obj)} {c r h : Nat} {ao : Option Addr} {cap : Nat} {hl : List Nat} {at_ k : Nat} {bh : Value} {ln n er : Int} (H : Dec w W bs c r h ao cap hl at_ bh ln n er) (hp : RPost W W' c h ao cap hl k) : Dec w W' bs c r h ao cap hl k bh ln n er := by
  have hh := H.hd.hr
  refine ⟨H.bel.trans (hp.kept.below H.bel.size fun g hg e => by have := H.hc; omega), fun x hx => ?_, H.nd, ?_, hp.ok, H.hr, H.hc⟩
  · obtain ⟨h1, h2, h3⟩ := H.box x hx
    exact ⟨by rw [hp.kept.block x.1 (block_lt h1) (by omega)]; exact h1, h2, h3⟩
  · rw [hp.kept.block r (block_lt H.rd) H.ne]; exact H.rd
/-- new blocks alone -/
theorem Dec.later {w W W' : World} {bs : List (Nat × Obj)} {c r h : Nat} {ao : Option Addr} {cap : Nat} {hl : List Nat} {at_ : Nat} {bh : Value} {ln n er : Int} (H : Dec w W bs c r h ao cap hl at_ bh ln n er) (hb : Below W.heap.size W W') : Dec w W' bs c r h ao cap hl at_ bh ln n er := by
  refine ⟨H.bel.trans (hb.mono H.bel.size), fun x hx => ?_, H.nd, ?_, H.hd.later (S := fun _ => False) (KeptIn.ofBelow hb) (fun h => h) (fun _ _ h => h), H.hr, H.hc⟩
  · obtain ⟨h1, h2, h3⟩ := H.box x hx
    exact ⟨(hb.block _ (block_lt h1)).trans h1, h2, h3⟩
  · exact (hb.block _ (block_lt H.rd)).trans H.rd
theorem Dec.drewN {w W : World} {bs : List (Nat × Obj)} {c r h : Nat} {ao : Option Addr} {cap : Nat} {hl : List Nat} {at_ : Nat} {bh : Value} {ln n er : Int} (H : Dec w W bs c r h ao cap hl at_ bh ln n er) (q : Nat) : Dec w (W.drewN q) bs c r h ao cap hl at_ bh ln n er :=
  H.later ⟨rfl, rfl, rfl, Nat.le_refl _, fun _ _ => rfl⟩
theorem below_set {w W : World} {b j : Nat} {v : Value} (h : Below w.heap.size w W) (hb : w.heap.size ≤ b) : Below w.heap.size w (W.setCell ⟨b, j, none⟩ v) :=
  h.trans ⟨rfl, rfl, rfl, by simp [World.setCell], fun g hg => Below.heap_setCell _ _ _ _ (by show g ≠ b; omega)⟩
/-- a store into the reading -/
theorem Dec.turn {w W : World} {bs : List (Nat × Obj)} {c r h : Nat} {ao : Option Addr} {cap : Nat} {hl : List Nat} {at_ : Nat} {bh : Value} {ln n er : Int} (H : Dec w W bs c r h ao cap hl at_ bh ln n er) (j : Nat) (v : Value) {bh' : Value} {ln' n' er' : Int}
    (hv : (#[.pointer (some ⟨h, 0, none⟩), bh, .int .i64 ln, .int .i64 n, .int .i64 er] : Array Value).setIfInBounds j v = #[.pointer (some ⟨h, 0, none⟩), bh', .int .i64 ln', .int .i64 n', .int .i64 er']) : Dec w (W.setCell ⟨r, j, none⟩ v) bs c r h ao cap hl at_ bh' ln' n' er' := by
  have hrc := H.hr
  have hcw := H.hc
  refine ⟨below_set H.bel (by omega), fun x hx => ?_, H.nd, ?_, ⟨?_, ?_, H.hd.lt, H.hd.len, H.hd.le, H.hd.hr⟩, H.hr, H.hc⟩
  · obtain ⟨h1, h2, h3⟩ := H.box x hx
    exact ⟨(Below.heap_setCell _ _ _ _ (by show x.1 ≠ r; omega)).trans h1, h2, h3⟩
  · have := heap_setCell_same W r j _ TRg v H.rd
    rw [this, hv]
  · exact (Below.heap_setCell _ _ _ _ (fun e => H.ne e.symm)).trans H.hd.blk
  · exact owns_same H.hd.own fun g hg => Below.heap_setCell _ _ _ _ (fun e => H.nv (by rw [hg, e]))
/-- a store into a box -/
theorem Dec.put {w W : World} {bs : List (Nat × Obj)} {c r h : Nat} {ao : Option Addr} {cap : Nat} {hl : List Nat} {at_ : Nat} {bh : Value} {ln n er : Int} (H : Dec w W bs c r h ao cap hl at_ bh ln n er) (pre post : List (Nat × Obj)) (b : Nat) (cs : Array Value) (t : TypeId) (hbs : bs = pre ++ (b, .cells cs t (0, 0)) :: post) (j : Nat) (v : Value) {cs' : Array Value} (hcs : cs.setIfInBounds j v = cs') :
    Dec w (W.setCell ⟨b, j, none⟩ v) (pre ++ (b, .cells cs' t (0, 0)) :: post) c r h ao cap hl at_ bh ln n er := by
  subst hbs
  obtain ⟨hb1, hb2, hb3⟩ := H.box (b, .cells cs t (0, 0)) (by simp)
  simp only at hb1 hb2 hb3
  have hrc := H.hr
  have hhc := H.hd.hr
  have hnd := H.nd
  rw [List.map_append, List.map_cons, List.nodup_append, List.nodup_cons] at hnd
  obtain ⟨hn1, ⟨hn2, hn3⟩, hn4⟩ := hnd
  have hoth : ∀ x, x ∈ pre ∨ x ∈ post → x.1 ≠ b := by
    rintro x (hx | hx) e
    · exact hn4 x.1 (List.mem_map_of_mem hx) b (by simp) e
    · exact hn2 (List.mem_map.2 ⟨x, hx, e⟩)
  refine ⟨below_set H.bel hb2, fun x hx => ?_, ?_, ?_, ⟨?_, ?_, H.hd.lt, H.hd.len, H.hd.le, H.hd.hr⟩, H.hr, H.hc⟩
  · have key : ∀ x, x ∈ pre ∨ x ∈ post → (W.setCell ⟨b, j, none⟩ v).heap[x.1]? = some x.2 ∧ w.heap.size ≤ x.1 ∧ x.1 < c := fun x hx' => by
      obtain ⟨h1, h2, h3⟩ := H.box x (by rcases hx' with h | h <;> simp [h])
      exact ⟨(Below.heap_setCell _ _ _ _ (hoth x hx')).trans h1, h2, h3⟩
    rcases List.mem_append.1 hx with hx' | hx'
    · exact key x (.inl hx')
    · rcases List.mem_cons.1 hx' with rfl | hx'
      · refine ⟨?_, hb2, hb3⟩
        have := heap_setCell_same W b j cs t v hb1
        rw [this, hcs]
      · exact key x (.inr hx')
  · simpa using H.nd
  · exact (Below.heap_setCell _ _ _ _ (by show r ≠ b; omega)).trans H.rd
  · exact (Below.heap_setCell _ _ _ _ (by show h ≠ b; omega)).trans H.hd.blk
  · exact owns_same H.hd.own fun g hg => Below.heap_setCell _ _ _ _ (by have := (owns_lt H.hd.own g hg).2; show g ≠ b; omega)
theorem Dec.b {w W : World} {bs : List (Nat × Obj)} {c r h : Nat} {ao : Option Addr} {cap : Nat} {hl : List Nat} {at_ : Nat} {bh : Value} {ln n er : Int} (H : Dec w W bs c r h ao cap hl at_ bh ln n er) {b : Nat} {cs : Array Value} {t : TypeId} (hb : (b, Obj.cells cs t (0, 0)) ∈ bs) (j : Nat) : W.cell? ⟨b, j, none⟩ = cs[j]? ∧ W.frozen? ⟨b, j, none⟩ = false :=
  ⟨blk_at (H.box _ hb).1 j, blk_free (H.box _ hb).1 j⟩

set_option maxHeartbeats 400000 in
theorem nil_number (W : World) (size : Int) : Calls Tryz.prog 91 #[.pointer none, .int .i64 size] W fun e W' => e = .returned (.tuple #[.int .u64 0, .int .i64 1]) ∧ W' = W := by
  have HU : Hid (Calls Tryz.prog 93 #[.pointer none] W fun e W' => e = .returned (.bool false) ∧ W' = W) := by
    show Calls _ _ _ _ _
    go_enter Tryz.func93, Tryz.ntmps93
    go_wp2
    go_ret
    exact ⟨rfl, rfl⟩
  go_enter Tryz.func91, Tryz.ntmps91
  go_wp2_with fail
  refine HU.out.mono ?_
  rintro e w1 ⟨rfl, hw⟩
  rw [hw]; clear hw
  go_wp2
  go_ret2
  exact ⟨rfl, rfl⟩
set_option maxHeartbeats 400000 in
theorem nil_u16 (W : World) : Calls Tryz.prog 63 #[.pointer none] W fun e W' => e = .returned (.tuple #[.int .u16 0, .int .i64 1]) ∧ W' = W := by
  have HN : Hid (Calls Tryz.prog 91 #[.pointer none, .int .i64 2] W fun e W' => e = .returned (.tuple #[.int .u64 0, .int .i64 1]) ∧ W' = W) := nil_number W 2
  go_enter Tryz.func63, Tryz.ntmps63
  go_wp2_with fail
  refine HN.out.mono ?_
  rintro e w1 ⟨rfl, hw⟩
  rw [hw]; clear hw
  go_wp2
  go_ret2
  exact ⟨rfl, rfl⟩
set_option maxHeartbeats 400000 in
theorem nil_u32 (W : World) : Calls Tryz.prog 67 #[.pointer none] W fun e W' => e = .returned (.tuple #[.int .u32 0, .int .i64 1]) ∧ W' = W := by
  have HN : Hid (Calls Tryz.prog 91 #[.pointer none, .int .i64 4] W fun e W' => e = .returned (.tuple #[.int .u64 0, .int .i64 1]) ∧ W' = W) := nil_number W 4
  go_enter Tryz.func67, Tryz.ntmps67
  go_wp2_with fail
  refine HN.out.mono ?_
  rintro e w1 ⟨rfl, hw⟩
  rw [hw]; clear hw
  go_wp2
  go_ret2
  exact ⟨rfl, rfl⟩
set_option maxHeartbeats 400000 in
theorem nh_u32 {W : World} {r : Nat} {n : Int} (H : Nh W r n) : Calls Tryz.prog 85 #[.pointer (some ⟨r, 0, none⟩)] W fun e W' => e = .returned (.int .u32 0) ∧ W' = W := by
  have c0 := H.c 0
  simp at c0
  have HN : Hid (Calls Tryz.prog 67 #[.pointer none] W fun e W' => e = .returned (.tuple #[.int .u32 0, .int .i64 1]) ∧ W' = W) := nil_u32 W
  clear H
  go_enter Tryz.func85, Tryz.ntmps85
  go_wp2_with fail
  refine HN.out.mono ?_
  rintro e w1 ⟨rfl, hw⟩
  rw [hw]; clear hw
  go_wp2
  go_ret
  exact ⟨rfl, rfl⟩
set_option maxHeartbeats 400000 in
theorem rd_u32 {w W : World} {bs : List (Nat × Obj)} {c r h : Nat} {ao : Option Addr} {cap : Nat} {hl : List Nat} {at_ : Nat} {bh : Value} {ln n er : Int} (H : Dec w W bs c r h ao cap hl at_ bh ln n er) (hb : at_ + 4 ≤ hl.length) :
    Calls Tryz.prog 85 #[.pointer (some ⟨r, 0, none⟩)] W fun e W' => e = .returned (.int .u32 (valB ((hl.drop at_).take 4) : Nat)) ∧ Dec w W' bs c r h ao cap hl (at_ + 4) bh ln n er := by
  have c0 := H.c 0
  simp at c0
  have HN : Hid (Calls Tryz.prog 67 #[.pointer (some ⟨h, 0, none⟩)] W fun e w' => e = .returned (.tuple #[.int .u32 (valB ((hl.drop at_).take 4) : Nat), .int .i64 0]) ∧ RPost W w' c h ao cap hl (at_ + 4)) := (ru32_any c h ao cap hl at_ W H.hd).mono fun e w' hh => by
    rcases hh with ⟨h1, _⟩ | ⟨_, h2, h3⟩
    · omega
    · exact ⟨h2, h3⟩
  have HH : Hid _ := H
  clear H
  generalize valB ((hl.drop at_).take 4) = x at *
  go_enter Tryz.func85, Tryz.ntmps85
  go_wp2_with fail
  refine HN.out.mono ?_
  rintro e W1 ⟨rfl, hp⟩
  have H1 : Hid _ := HH.out.moved hp
  clear hp HH
  go_wp2
  go_ret
  exact ⟨rfl, H1.out⟩
set_option maxHeartbeats 400000 in
theorem nil_u64 (W : World) : Calls Tryz.prog 64 #[.pointer none] W fun e W' => e = .returned (.tuple #[.int .u64 0, .int .i64 1]) ∧ W' = W := by
  have HN : Hid (Calls Tryz.prog 91 #[.pointer none, .int .i64 8] W fun e W' => e = .returned (.tuple #[.int .u64 0, .int .i64 1]) ∧ W' = W) := nil_number W 8
  go_enter Tryz.func64, Tryz.ntmps64
  go_wp2_with fail
  refine HN.out.mono ?_
  rintro e w1 ⟨rfl, hw⟩
  rw [hw]; clear hw
  go_wp2
  go_ret2
  exact ⟨rfl, rfl⟩
set_option maxHeartbeats 400000 in
theorem nh_u64 {W : World} {r : Nat} {n : Int} (H : Nh W r n) : Calls Tryz.prog 84 #[.pointer (some ⟨r, 0, none⟩)] W fun e W' => e = .returned (.int .u64 0) ∧ W' = W := by
  have c0 := H.c 0
  simp at c0
  have HN : Hid (Calls Tryz.prog 64 #[.pointer none] W fun e W' => e = .returned (.tuple #[.int .u64 0, .int .i64 1]) ∧ W' = W) := nil_u64 W
  clear H
  go_enter Tryz.func84, Tryz.ntmps84
  go_wp2_with fail
  refine HN.out.mono ?_
  rintro e w1 ⟨rfl, hw⟩
  rw [hw]; clear hw
  go_wp2
  go_ret
  exact ⟨rfl, rfl⟩
set_option maxHeartbeats 400000 in
theorem rd_u64 {w W : World} {bs : List (Nat × Obj)} {c r h : Nat} {ao : Option Addr} {cap : Nat} {hl : List Nat} {at_ : Nat} {bh : Value} {ln n er : Int} (H : Dec w W bs c r h ao cap hl at_ bh ln n er) (hb : at_ + 8 ≤ hl.length) :
    Calls Tryz.prog 84 #[.pointer (some ⟨r, 0, none⟩)] W fun e W' => e = .returned (.int .u64 (valB ((hl.drop at_).take 8) : Nat)) ∧ Dec w W' bs c r h ao cap hl (at_ + 8) bh ln n er := by
  have c0 := H.c 0
  simp at c0
  have HN : Hid (Calls Tryz.prog 64 #[.pointer (some ⟨h, 0, none⟩)] W fun e w' => e = .returned (.tuple #[.int .u64 (valB ((hl.drop at_).take 8) : Nat), .int .i64 0]) ∧ RPost W w' c h ao cap hl (at_ + 8)) := (ru64_any c h ao cap hl at_ W H.hd).mono fun e w' hh => by
    rcases hh with ⟨h1, _⟩ | ⟨_, h2, h3⟩
    · omega
    · exact ⟨h2, h3⟩
  have HH : Hid _ := H
  clear H
  generalize valB ((hl.drop at_).take 8) = x at *
  go_enter Tryz.func84, Tryz.ntmps84
  go_wp2_with fail
  refine HN.out.mono ?_
  rintro e W1 ⟨rfl, hp⟩
  have H1 : Hid _ := HH.out.moved hp
  clear hp HH
  go_wp2
  go_ret
  exact ⟨rfl, H1.out⟩
set_option maxHeartbeats 400000 in
theorem refuse_any {w W : World} {bs : List (Nat × Obj)} {c r h : Nat} {ao : Option Addr} {cap : Nat} {hl : List Nat} {at_ : Nat} {bh : Value} {ln n er : Int} (H : Dec w W bs c r h ao cap hl at_ bh ln n er) (e0 : Int) :
    Calls Tryz.prog 98 #[.pointer (some ⟨r, 0, none⟩), .int .i64 e0] W fun e W' => e = .returned (.tuple #[]) ∧ Dec w W' bs c r h ao cap hl at_ bh ln 0 e0 := by
  have c3 := H.c 3
  have c4 := H.c 4
  have f3 := H.f 3
  have f4 := H.f 4
  simp at c3 c4
  have H1 := (H.turn 3 (.int .i64 0) (n' := 0) rfl)
  have c4' := H1.c 4
  have f4' := H1.f 4
  simp at c4'
  have H2 : Hid _ := H1.turn 4 (.int .i64 e0) (er' := e0) rfl
  clear H H1
  go_enter Tryz.func98, Tryz.ntmps98
  go_wp2
  go_end0
  exact ⟨rfl, H2.out⟩

set_option maxHeartbeats 400000 in
theorem magic_ok {w W : World} {bs : List (Nat × Obj)} {c r h : Nat} {ao : Option Addr} {cap : Nat} {hl : List Nat} {at_ : Nat} {bh : Value} {ln n : Int} (H : Dec w W bs c r h ao cap hl at_ bh ln n 0) (m : Nat) :
    Calls Tryz.prog 83 #[.pointer (some ⟨r, 0, none⟩), .int .u64 (m : Int), .int .u64 (m : Int)] W fun e W' => e = .returned (.bool true) ∧ Dec w W' bs c r h ao cap hl at_ bh ln n 0 := by
  have c4 := H.c 4
  simp at c4
  have HH : Hid _ := H
  clear H
  go_enter Tryz.func83, Tryz.ntmps83
  go_wp2
  go_ret
  exact ⟨rfl, HH.out⟩
set_option maxHeartbeats 400000 in
theorem magic_bad {w W : World} {bs : List (Nat × Obj)} {c r h : Nat} {ao : Option Addr} {cap : Nat} {hl : List Nat} {at_ : Nat} {bh : Value} {ln n : Int} (H : Dec w W bs c r h ao cap hl at_ bh ln n 0) (x m : Nat) (hx : x ≠ m) :
    Calls Tryz.prog 83 #[.pointer (some ⟨r, 0, none⟩), .int .u64 (x : Int), .int .u64 (m : Int)] W fun e W' => e = .returned (.bool false) ∧ Dec w W' bs c r h ao cap hl at_ bh ln 0 80 := by
  have c4 := H.c 4
  simp at c4
  have hx' : ¬ ((x : Int) = (m : Int)) := by omega
  have hd : ((x : Int) != (m : Int)) = true := by simp; omega
  have HR : Hid (Calls Tryz.prog 98 #[.pointer (some ⟨r, 0, none⟩), .int .i64 80] W fun e W' => e = .returned (.tuple #[]) ∧ Dec w W' bs c r h ao cap hl at_ bh ln 0 80) := refuse_any H 80
  clear H
  go_enter Tryz.func83, Tryz.ntmps83
  go_wp2_with fail
  refine HR.out.mono ?_
  rintro e W1 ⟨rfl, H1⟩
  have c4 := H1.c 4
  simp at c4
  have HH : Hid _ := H1
  clear H1
  go_wp2
  go_ret
  exact ⟨rfl, HH.out⟩
end Go.Proofs.YtfifaaopdhcaaaaGreatDoor
