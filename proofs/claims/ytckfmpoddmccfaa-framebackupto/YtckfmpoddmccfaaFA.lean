import Derived.Test.YtckfmpoddmccfaaJI
namespace Go.Proofs.Ytckfmpoddmccfaa
open Go.RowKit
set_option linter.unusedVariables false
set_option linter.unusedSimpArgs false
set_option maxRecDepth 100000

abbrev TIn : TypeId := 81
/-- the bytes that an inbox holds: a row of its own, or the rest of one that was cut -/
structure HRow (w : World) (B : Nat) (v : Value) (l : List Nat) : Prop where
  lt : ∀ x ∈ l, x < 256
  len : l.length ≤ 2097152
  form : w.ownsRow B 5 1 v l.length (l.map bv) ∨ ∃ g off cur, v = .slice (some ⟨g, off, none⟩) l.length l.length ∧ B ≤ g ∧ w.heap[g]? = some (.cells cur 5 (0, 0)) ∧ ∀ k (hk : k < l.length), cur[off + k]? = some (bv l[k])
theorem HRow.lo {w : World} {B : Nat} {v : Value} {l : List Nat} (h : HRow w B v l) (g : Nat) (hg : v.ownBlock = some g) : B ≤ g ∧ g < w.heap.size ∧ ∃ cur, w.heap[g]? = some (.cells cur 5 (0, 0)) := by
  rcases h.form with ho | ⟨g', off, cur, rfl, hb, hh, _⟩
  · exact ⟨(owns_lt ho g hg).2, (owns_lt ho g hg).1, owns_type ho g hg⟩
  · simp [Value.ownBlock] at hg
    subst hg
    exact ⟨hb, block_lt hh, cur, hh⟩
theorem HRow.same {w w' : World} {B : Nat} {v : Value} {l : List Nat} (h : HRow w B v l) (hs : ∀ g, v.ownBlock = some g → w'.heap[g]? = w.heap[g]?) : HRow w' B v l := by
  refine ⟨h.lt, h.len, ?_⟩
  rcases h.form with ho | ⟨g, off, cur, rfl, hb, hh, hc⟩
  · exact .inl (owns_same ho hs)
  · exact .inr ⟨g, off, cur, rfl, hb, (hs g rfl).trans hh, hc⟩
theorem HRow.later {w w' : World} {B : Nat} {v : Value} {l : List Nat} (h : HRow w B v l) (hb : Below w.heap.size w w') : HRow w' B v l :=
  h.same fun g hg => hb.block g (h.lo g hg).2.1
/-- as a slice that may be cut -/
theorem HRow.crow {w : World} {B : Nat} {v : Value} {l : List Nat} (h : HRow w B v l) : ∃ ao cap, v = .slice ao l.length cap ∧ CRow w ao cap l := by
  have hlen := h.len
  rcases h.form with ho | ⟨g, off, cur, rfl, hb, hh, hc⟩
  · obtain ⟨ao, cap, hv, hr⟩ := BRow.own ho h.lt (by omega)
    subst hv
    exact ⟨ao, cap, rfl, hr, (owns_cap ho).1, (owns_cap ho).2⟩
  · refine ⟨_, _, rfl, ⟨h.lt, by omega, fun e => by simp at e, fun _ => ⟨g, off, rfl, fun k hk => ?_⟩⟩, Nat.le_refl _, by omega⟩
    rw [blk_at hh]; exact hc k hk
/-- what an append to it comes to -/
theorem HRow.append {P : Program} (w : World) (t ty : TypeId) (B : Nat) (i : TypeInfo) (z : Value) (bytes : Nat) (ht : P.underlying t = some (.slice 5)) (hi : P.info? 5 = some i) (hz : i.zero = some z)
    (hsize : i.size = 1) (hby : i.bytes = 1) (hzs : z.cells.size = 1) (v : Value) (l : List Nat) (h : HRow w B v l)
    (ao : Option Addr) (c : Nat) (m : List Nat) (hm : BRow w ao c m) (hl : l.length + m.length ≤ 2097152) (hB : B ≤ w.heap.size) :
    ∃ ao' c' w', (Builtin.append_ #[t, t] ty #[v, .slice ao m.length c]).run P w = .ok (.slice ao' (l.length + m.length) c') w' ∧ HRow w' B (.slice ao' (l.length + m.length) c') (l ++ m) ∧ w.grownBy w' v.ownBlock ∧ Fresh w v (.slice ao' (l.length + m.length) c') := by
  have hlt : ∀ x ∈ l ++ m, x < 256 := fun x hx => (List.mem_append.1 hx).elim (h.lt x) (hm.lt x)
  have hlen : (l ++ m).length ≤ 2097152 := by rw [List.length_append]; exact hl
  have hnl : (m.map bv).length = m.length := by simp
  have hfin : ∀ {w' : World} {B' : Nat} {v' : Value}, w'.ownsRow B' 5 1 v' (l.length + m.length) (l.map bv ++ m.map bv) → B ≤ B' → ∃ ao' c', v' = .slice ao' (l.length + m.length) c' ∧ HRow w' B v' (l ++ m) := fun {w' B' v'} ho hBB => by
    obtain ⟨ao', c', rfl⟩ := owns_form ho
    refine ⟨ao', c', rfl, hlt, hlen, .inl ?_⟩
    rw [List.map_append, List.length_append]
    exact owns_mono ho hBB
  cases ao with
  | none =>
    obtain ⟨rfl, rfl⟩ := hm.nil rfl
    obtain ⟨ao', c', rfl, hc⟩ := h.crow
    refine ⟨ao', c', w, ?_, by simpa using h, World.grownBy.refl w _, .inl rfl⟩
    rcases h.form with ho | ⟨g, off, cur, hv, hb, hh, _⟩
    · have := run_append_owned_none (P := P) (w := w) B t ty 5 i 1 ht hi _ _ _ ho
      simpa using this
    · have e1 := hc.cap1
      simp [Builtin.append_, run_underlying ht, sizeOf, typeInfo, hi, Builtin.lenOf, Builtin.firstCells, e1]
      cases ao' with
      | none => simp at hv
      | some a => simp [storeCells]
  | some ad =>
    have hnews : ∀ j u, (m.map bv)[j]? = some u → w.cell? (ad.add j) = some u := hm.news ad rfl
    rcases h.form with ho | ⟨g, off, cur, rfl, hb, hh, hc⟩
    · obtain ⟨v', w', hrun, r1, r2, r3⟩ := run_append_two (P := P) w t ty B 5 i z 1 ht hi hz hsize hby hzs v l.length (l.map bv) ho ad m.length c (m.map bv) hnl hnews (bv_one m) (by unfold maxLen; omega) (by omega) hB
      obtain ⟨ao', c', rfl, hr⟩ := hfin r1 (Nat.le_refl _)
      exact ⟨ao', c', w', hrun, hr, r2, r3⟩
    · by_cases h0 : m.length = 0
      · have hm0 : m = [] := List.eq_nil_of_length_eq_zero h0
        subst hm0
        refine ⟨_, _, w, ?_, by simpa using h, World.grownBy.refl w _, .inl rfl⟩
        have := run_append_room_cells (P := P) w t ty 5 i ht hi g off l.length l.length ad 0 c [] (by simp) (by simp) (by simp) (by omega) (by simp) (by simp)
        simpa [World.setCells] using this
      · obtain ⟨v', w', hrun, r1, r2⟩ := run_append_arg_grows (P := P) w t ty 5 i z 1 1 ht hi hz hsize hby hzs (by decide) ⟨g, off, none⟩ l.length l.length (l.map bv) (by simp) (by
          intro j u hu
          have hj : j < l.length := by
            have := (List.getElem?_eq_some_iff.1 hu).1
            rw [List.length_map] at this; exact this
          rw [add_plain, blk_at hh, hc j hj, ← hu]; simp [hj]) ad m.length c (m.map bv) (by simp) hnews (by omega) (by unfold maxLen; omega) (by omega)
        obtain ⟨ao', c', rfl, hr⟩ := hfin r1 hB
        refine ⟨ao', c', w', hrun, hr, ⟨r2.os, r2.tape, r2.output, r2.size, fun k hk _ => r2.block k hk (by simp)⟩, ?_⟩
        rcases fresh_of_owns r1 with hf | hf
        · exfalso
          rcases r1.2 with ⟨hv', hn'⟩ | ⟨g', cap', cur', hv', _⟩
          · omega
          · simp only [Value.slice.injEq] at hv'
            rw [hv'.1] at hf
            simp [Value.ownBlock] at hf
        · exact .inr hf
theorem step_append_held {P : Program} {ops : Array Oper} {o : Oper} {a : Act} {w : World} {K : Act → World → Prop} {Q : Exit → Act → World → Prop} {E : Prop}
    (hg : o.guard = none) (s x : Operand) (t : TypeId) (hop : o.op = Op.call { callee := Callee.builtin Builtin.append, args := #[s, x], argTypes := #[t, t] })
    (B : Nat) (i : TypeInfo) (z : Value) (ht : P.underlying t = some (.slice 5)) (hi : P.info? 5 = some i) (hz : i.zero = some z)
    (hsize : i.size = 1) (hby : i.bytes = 1) (hzs : z.cells.size = 1) (v : Value) (l : List Nat) (hs : a.eval s = v) (h : HRow w B v l)
    (ao : Option Addr) (n c : Nat) (m : List Nat) (hx : a.eval x = .slice ao n c) (hm : BRow w ao c m) (hn : m.length = n) (hl : l.length + n ≤ 2097152) (hB : B ≤ w.heap.size)
    (hK : ∀ ao' c' w', HRow w' B (.slice ao' (l.length + n) c') (l ++ m) → w.grownBy w' v.ownBlock → Fresh w v (.slice ao' (l.length + n) c') → K (a.put o.dst (.slice ao' (l.length + n) c')) w') :
    if Region.wanted o (yielded ops a.tmps) = true then Oper.wp P o a w K Q else E := by
  subst hn
  have hw : Region.wanted o (yielded ops a.tmps) = true := by simp [Region.wanted, hg]
  rw [if_pos hw]
  obtain ⟨ao', c', w', hrun, r1, r2, r3⟩ := h.append (P := P) w t o.type B i z 1 ht hi hz hsize hby hzs v l ao c m hm hl hB
  unfold Oper.wp
  simp [execOp, hop, resolve, invoke, builtin, hs, hx, hrun, Result.andThen]
  exact hK _ _ _ r1 r2 r3

/-- an inbox -/
structure Inb (w : World) (B b : Nat) (v : Value) (rm ov : Nat) (l : List Nat) : Prop where
  blk : w.heap[b]? = some (.cells #[.int .i64 (rm : Int), v, .int .u32 (ov : Int)] TIn (0, 0))
  row : HRow w B v l
  hb : B ≤ b
  r1 : 1 ≤ rm
  r2 : rm ≤ 2097152
  le : l.length ≤ rm
  ov4 : ov < 4294967296
/-- its blocks -/
def ifp (b : Nat) (v : Value) (g : Nat) : Prop := g = b ∨ v.ownBlock = some g
theorem Inb.c {w : World} {B b : Nat} {v : Value} {rm ov : Nat} {l : List Nat} (h : Inb w B b v rm ov l) (j : Nat) : w.cell? ⟨b, j, none⟩ = (#[.int .i64 (rm : Int), v, .int .u32 (ov : Int)] : Array Value)[j]? := blk_at h.blk j
theorem Inb.f {w : World} {B b : Nat} {v : Value} {rm ov : Nat} {l : List Nat} (h : Inb w B b v rm ov l) (j : Nat) : w.frozen? ⟨b, j, none⟩ = false := blk_free h.blk j
theorem Inb.ne {w : World} {B b : Nat} {v : Value} {rm ov : Nat} {l : List Nat} (h : Inb w B b v rm ov l) (g : Nat) (hg : v.ownBlock = some g) : g ≠ b := by
  rintro rfl
  obtain ⟨_, _, cur, hc⟩ := h.row.lo g hg
  have := h.blk.symm.trans hc
  simp at this
  exact absurd this.2 (by decide)
theorem Inb.keep {w w' : World} {B b : Nat} {v : Value} {rm ov : Nat} {l : List Nat} (h : Inb w B b v rm ov l) {S : Nat → Prop} (k : KeptIn S w w') (hd : ∀ g, ifp b v g → ¬ S g) : Inb w' B b v rm ov l :=
  ⟨(k.block b (block_lt h.blk) (hd b (.inl rfl))).trans h.blk, h.row.same fun g hg => k.block g (h.row.lo g hg).2.1 (hd g (.inr hg)), h.hb, h.r1, h.r2, h.le, h.ov4⟩
theorem Inb.later {w w' : World} {B b : Nat} {v : Value} {rm ov : Nat} {l : List Nat} (h : Inb w B b v rm ov l) (hb : Below w.heap.size w w') : Inb w' B b v rm ov l :=
  h.keep (S := fun _ => False) (KeptIn.ofBelow hb) (fun _ _ h => h)
theorem Inb.drewN {w : World} {B b : Nat} {v : Value} {rm ov : Nat} {l : List Nat} (h : Inb w B b v rm ov l) (q : Nat) : Inb (w.drewN q) B b v rm ov l := h.later ⟨rfl, rfl, rfl, Nat.le_refl _, fun _ _ => rfl⟩
theorem Inb.lt {w : World} {B b : Nat} {v : Value} {rm ov : Nat} {l : List Nat} (h : Inb w B b v rm ov l) (g : Nat) (hg : ifp b v g) : B ≤ g ∧ g < w.heap.size := by
  rcases hg with rfl | hg
  · exact ⟨h.hb, block_lt h.blk⟩
  · exact ⟨(h.row.lo g hg).1, (h.row.lo g hg).2.1⟩
/-- what a call of it leaves -/
structure IAct (w w' : World) (b : Nat) (v v' : Value) : Prop where
  kept : KeptIn (ifp b v) w w'
  fresh : Fresh w v v'
theorem IAct.drewN {w : World} {b : Nat} {v : Value} (q : Nat) : IAct w (w.drewN q) b v v := ⟨keptIn_drewN (KeptIn.refl _ _) q, .inl rfl⟩
theorem IAct.ofBelow {w w' : World} {b : Nat} {v : Value} (h : Below w.heap.size w w') : IAct w w' b v v := ⟨KeptIn.ofBelow h, .inl rfl⟩
theorem IAct.trans {a c d : World} {b : Nat} {v v' v'' : Value} (h : IAct a c b v v') (k : IAct c d b v' v'') : IAct a d b v v'' := by
  refine ⟨h.kept.trans k.kept ?_, ?_⟩
  · rintro g hg hn (rfl | he)
    · exact hn (.inl rfl)
    · rcases h.fresh with e | ⟨g', e, hlt⟩
      · exact hn (.inr (e ▸ he))
      · rw [he] at e; simp at e; subst e; omega
  · rcases k.fresh with e | ⟨g, e, hlt⟩
    · rcases h.fresh with e' | ⟨g', e', hlt'⟩
      · exact .inl (e.trans e')
      · exact .inr ⟨g', e.trans e', hlt'⟩
    · exact .inr ⟨g, e, Nat.le_trans h.kept.size hlt⟩
theorem IAct.below {w w' : World} {B b : Nat} {v v' : Value} {rm ov : Nat} {l : List Nat} (h : IAct w w' b v v') (hi : Inb w B b v rm ov l) : Below B w w' :=
  h.kept.below (Nat.le_trans hi.hb (Nat.le_of_lt (block_lt hi.blk))) (fun g hg hf => by have := (hi.lt g hf).1; omega)
theorem IAct.ofKept {w w' : World} {b : Nat} {v : Value} (h : KeptIn (fun g => g = b) w w') : IAct w w' b v v := ⟨h.mono fun g _ e => .inl e, .inl rfl⟩
/-- bytes elsewhere stay -/
theorem CRow.past {w w' : World} {B b : Nat} {v : Value} {rm ov : Nat} {l : List Nat} {ao : Option Addr} {cap : Nat} {m : List Nat} (hm : CRow w ao cap m) (h : Inb w B b v rm ov l) (k : KeptIn (fun g => g = b) w w') : CRow w' ao cap m := by
  refine ⟨⟨hm.row.lt, hm.row.len, hm.row.nil, fun hne => ?_⟩, hm.cap1, hm.cap2⟩
  obtain ⟨g, off, e, hc⟩ := hm.row.at_ hne
  refine ⟨g, off, e, fun j hj => ?_⟩
  have hx := hc j hj
  have hgb : g ≠ b := by
    rintro rfl
    rw [h.c] at hx
    obtain ⟨ao', cap', rfl, _⟩ := h.row.crow
    generalize off + j = i at hx
    match i, hx with
    | 0, hx => simp [bv] at hx
    | 1, hx => simp [bv] at hx
    | 2, hx => simp [bv] at hx
    | i + 3, hx => simp at hx
  have hlt : g < w.heap.size := World.block_lt_of_cell? w _ hx
  rw [← hx]
  exact World.cell?_of_block (k.block g hlt hgb)
/-- a store into its third cell -/
theorem Inb.putO {w : World} {B b : Nat} {v : Value} {rm ov : Nat} {l : List Nat} (h : Inb w B b v rm ov l) (o : Nat) (ho : o < 4294967296) :
    Inb (w.setCell ⟨b, 2, none⟩ (.int .u32 (o : Int))) B b v rm o l ∧ KeptIn (fun g => g = b) w (w.setCell ⟨b, 2, none⟩ (.int .u32 (o : Int))) := by
  have hk : KeptIn (fun g => g = b) w (w.setCell ⟨b, 2, none⟩ (.int .u32 (o : Int))) := ⟨rfl, rfl, rfl, by simp [World.setCell], fun g hg hn => Below.heap_setCell _ _ _ _ (fun e => hn e)⟩
  refine ⟨⟨?_, h.row.same fun g hg => Below.heap_setCell _ _ _ _ (h.ne g hg), h.hb, h.r1, h.r2, h.le, ho⟩, hk⟩
  have := heap_setCell_same w b 2 _ TIn (.int .u32 (o : Int)) h.blk
  rw [this]; rfl
/-- other bytes are held -/
theorem Inb.putV {w w1 : World} {B b : Nat} {v v' : Value} {rm ov : Nat} {l l' : List Nat} (h : Inb w B b v rm ov l) (hg : w.grownBy w1 v.ownBlock) (hr : HRow w1 B v' l') (hf : Fresh w v v') (hle : l'.length ≤ rm) :
    (w1.cell? ⟨b, 1, none⟩ = some v ∧ w1.frozen? ⟨b, 1, none⟩ = false) ∧ Inb (w1.setCell ⟨b, 1, none⟩ v') B b v' rm ov l' ∧ IAct w (w1.setCell ⟨b, 1, none⟩ v') b v v' := by
  have hb1 : w1.heap[b]? = some (.cells #[.int .i64 (rm : Int), v, .int .u32 (ov : Int)] TIn (0, 0)) := (hg.block b (block_lt h.blk) (fun e => h.ne b e.symm rfl)).trans h.blk
  have hne : ∀ g, v'.ownBlock = some g → g ≠ b := fun g hg' e => by
    subst e
    obtain ⟨_, _, cur, hc⟩ := hr.lo g hg'
    have := hb1.symm.trans hc
    simp at this
    exact absurd this.2 (by decide)
  refine ⟨⟨by rw [blk_at hb1]; rfl, blk_free hb1 1⟩, ⟨?_, hr.same fun g hg' => Below.heap_setCell _ _ _ _ (hne g hg'), h.hb, h.r1, h.r2, hle, h.ov4⟩, ⟨hg.os, hg.tape, hg.output, ?_, fun g hg' hn => ?_⟩, hf⟩
  · have := heap_setCell_same w1 b 1 _ TIn v' hb1
    rw [this]; rfl
  · have := hg.size; simpa [World.setCell] using this
  · rw [Below.heap_setCell _ _ _ _ (fun e => hn (.inl e))]
    exact hg.block g hg' (fun e => hn (.inr e.symm))

set_option maxHeartbeats 400000 in
theorem usableI {w : World} {B b : Nat} {v : Value} {rm ov : Nat} {l : List Nat} (h : Inb w B b v rm ov l) :
    Calls Try.prog 27 #[.pointer (some ⟨b, 0, none⟩)] w fun e w' => e = .returned (.bool true) ∧ w' = w := by
  have c0 := h.c 0
  have hr := h.r1
  simp at c0
  have ht : decide ((0 : Int) < (rm : Int)) = true := by simp; omega
  have ht2 : (0 : Int) < (rm : Int) := by omega
  have ht3 : 0 < rm := hr
  clear h
  go_enter Try.func27, Try.ntmps27
  go_wp2
  go_ret
  exact ⟨rfl, rfl⟩
set_option maxHeartbeats 400000 in
theorem heldI {w : World} {B b : Nat} {v : Value} {rm ov : Nat} {l : List Nat} (h : Inb w B b v rm ov l) :
    Calls Try.prog 11 #[.pointer (some ⟨b, 0, none⟩)] w fun e w' => e = .returned (.int .i64 (l.length : Int)) ∧ w' = w := by
  have HU : Hid (Calls Try.prog 27 #[.pointer (some ⟨b, 0, none⟩)] w fun e w' => e = .returned (.bool true) ∧ w' = w) := usableI h
  obtain ⟨ao, cap, rfl, hc⟩ := h.row.crow
  have c1 := h.c 1
  simp at c1
  clear h hc
  go_enter Try.func11, Try.ntmps11
  go_wp2_with fail
  refine HU.out.mono ?_
  rintro e w1 ⟨rfl, hw⟩
  rw [hw]; clear hw
  go_wp2
  go_ret
  exact ⟨rfl, rfl⟩
set_option maxHeartbeats 400000 in
theorem roomI {w : World} {B b : Nat} {v : Value} {rm ov : Nat} {l : List Nat} (h : Inb w B b v rm ov l) :
    Calls Try.prog 12 #[.pointer (some ⟨b, 0, none⟩)] w fun e w' => e = .returned (.int .i64 ((rm - l.length : Nat) : Int)) ∧ ∃ q, w' = w.drewN q := by
  have HU : Hid (Calls Try.prog 27 #[.pointer (some ⟨b, 0, none⟩)] w fun e w' => e = .returned (.bool true) ∧ w' = w) := usableI h
  have h1 := h.le
  have h2 := h.r2
  have hw : IntKind.i64.wrap ((rm : Int) - (l.length : Int)) = ((rm - l.length : Nat) : Int) := by rw [IntKind.wrap_i64]; omega
  obtain ⟨ao, cap, rfl, hc⟩ := h.row.crow
  have c0 := h.c 0
  have c1 := h.c 1
  simp at c0 c1
  clear h hc
  go_enter Try.func12, Try.ntmps12
  go_wp2_with fail
  refine HU.out.mono ?_
  rintro e w1 ⟨rfl, hw1⟩
  rw [hw1]; clear hw1
  go_wp2
  go_quiet (fail)
  go_wp2
  go_ret
  exact ⟨rfl, _, rfl⟩
set_option maxHeartbeats 400000 in
theorem passI {w : World} {B b : Nat} {v : Value} {rm ov : Nat} {l : List Nat} (h : Inb w B b v rm ov l) (n p : Nat) (hn : n ≤ 4611686018427387904) (hp : min n ov = p) :
    Calls Try.prog 49 #[.pointer (some ⟨b, 0, none⟩), .int .i64 (n : Int)] w fun e w' => e = .returned (.int .i64 (p : Int)) ∧ Inb w' B b v rm (ov - p) l ∧ KeptIn (fun g => g = b) w w' := by
  have ho := h.ov4
  have HI : Hid (Inb w B b v rm ov l) := h
  have c2 := h.c 2
  have f2 := h.f 2
  simp at c2
  have w1 : IntKind.u64.wrap (n : Int) = (n : Int) := by rw [IntKind.wrap_u64]; omega
  have w2 : IntKind.u64.wrap (ov : Int) = (ov : Int) := by rw [IntKind.wrap_u64]; omega
  clear h
  by_cases hlt : ov < n
  · obtain rfl : p = ov := by omega
    have w3 : IntKind.u32.wrap (p : Int) = (p : Int) := by rw [IntKind.wrap_u32]; omega
    have w5 : IntKind.i64.wrap (p : Int) = (p : Int) := by rw [IntKind.wrap_i64]; omega
    have hz : IntKind.u32.wrap ((p : Int) - (p : Int)) = 0 := by rw [IntKind.wrap_u32]; omega
    have HP : Hid _ := HI.out.putO 0 (by decide)
    clear HI
    go_enter Try.func49, Try.ntmps49
    go_wp2
    go_ret
    rw [Nat.sub_self]
    exact ⟨rfl, HP.out.1, HP.out.2⟩
  · obtain rfl : p = n := by omega
    have w3 : IntKind.u32.wrap (p : Int) = (p : Int) := by rw [IntKind.wrap_u32]; omega
    have w4 : IntKind.u32.wrap ((ov : Int) - (p : Int)) = ((ov : Int) - (p : Int)) := by rw [IntKind.wrap_u32]; omega
    have w5 : IntKind.i64.wrap (p : Int) = (p : Int) := by rw [IntKind.wrap_i64]; omega
    have hcast : ((ov - p : Nat) : Int) = (ov : Int) - (p : Int) := by omega
    have HP : Hid _ := HI.out.putO (ov - p) (by omega)
    rw [hcast] at HP
    clear HI hcast
    go_enter Try.func49, Try.ntmps49
    go_wp2
    go_ret
    exact ⟨rfl, HP.out.1, HP.out.2⟩
/-- where the rest begins -/
theorem HRow.rest {w : World} {B : Nat} {v : Value} {l : List Nat} (h : HRow w B v l) (n : Nat) (hn : n ≤ l.length) : ∃ ao cap, v = .slice ao l.length cap ∧ l.length ≤ cap ∧ cap ≤ 9223372036854775807 ∧ (ao = none → l.length = 0 ∧ cap = 0) ∧ (∀ a, ao = some a → HRow w B (.slice (if l.length = n then ao else some ⟨a.block, a.off + n, none⟩) (l.length - n) (l.length - n)) (l.drop n) ∧ a = ⟨a.block, a.off, none⟩) := by
  obtain ⟨ao, cap, rfl, hc⟩ := h.crow
  refine ⟨ao, cap, rfl, hc.cap1, hc.cap2, fun e => ⟨by rw [(hc.row.nil e).1]; rfl, (hc.row.nil e).2⟩, fun a ha => ?_⟩
  subst ha
  have hlt : ∀ x ∈ l.drop n, x < 256 := fun x hx => h.lt x (List.mem_of_mem_drop hx)
  have hlen : (l.drop n).length ≤ 2097152 := by have := h.len; rw [List.length_drop]; omega
  have key : ∀ g off cur, w.heap[g]? = some (.cells cur 5 (0, 0)) → B ≤ g → (∀ k (hk : k < l.length), cur[off + k]? = some (bv l[k])) → HRow w B (.slice (if l.length = n then some ⟨g, off, none⟩ else some ⟨g, off + n, none⟩) (l.length - n) (l.length - n)) (l.drop n) := fun g off cur hg hb hcell => by
    refine ⟨hlt, hlen, .inr ?_⟩
    by_cases e : l.length = n
    · rw [if_pos e]
      exact ⟨g, off, cur, by rw [List.length_drop], hb, hg, fun k hk => by rw [List.length_drop] at hk; omega⟩
    · rw [if_neg e]
      refine ⟨g, off + n, cur, by rw [List.length_drop], hb, hg, fun k hk => ?_⟩
      have hk2 := hk
      rw [List.length_drop] at hk2
      rw [Nat.add_assoc, hcell (n + k) (by omega)]
      simp
  rcases h.form with ho | ⟨g, off, cur, hv, hb, hh, hcell⟩
  · rcases ho.2 with ⟨hv, hn0⟩ | ⟨g, cap', cur, hv, hb, hh, hnc, hcm, hsz, htk⟩
    · simp at hv
    · simp only [Value.slice.injEq, Option.some.injEq] at hv
      obtain ⟨rfl, _, rfl⟩ := hv
      refine ⟨key g 0 cur hh hb fun k hk => ?_, rfl⟩
      have h1 := congrArg (fun x => x[k]?) htk
      simp only [List.getElem?_take, List.getElem?_map, List.getElem?_eq_getElem hk] at h1
      rw [if_pos (by omega)] at h1
      rw [Nat.zero_add]
      simpa using h1
  · simp only [Value.slice.injEq, Option.some.injEq] at hv
    obtain ⟨rfl, _, _⟩ := hv
    exact ⟨key g off cur hh hb hcell, rfl⟩
set_option maxHeartbeats 1000000 in
theorem dropI {w : World} {B b : Nat} {v : Value} {rm ov : Nat} {l : List Nat} (h : Inb w B b v rm ov l) (n : Nat) (hn : n ≤ l.length) :
    Calls Try.prog 64 #[.pointer (some ⟨b, 0, none⟩), .int .i64 (n : Int)] w fun e w' => e = .returned (.tuple #[]) ∧ ∃ v', Inb w' B b v' rm ov (l.drop n) ∧ IAct w w' b v v' := by
  have HI : Hid (Inb w B b v rm ov l) := h
  have hle := h.row.len
  have hlr := h.le
  have c1 := h.c 1
  have f1 := h.f 1
  simp at c1
  obtain ⟨ao, cap, rfl, hc1, hc2, hno, hso⟩ := h.row.rest n hn
  have HS : Hid _ := hso
  clear h hso
  obtain ⟨m, hm⟩ : ∃ m, l.length = m := ⟨_, rfl⟩
  rw [hm] at HS hle hc1 hno hn c1 hlr
  have h1 : (n : Int) ≤ (m : Int) := by omega
  have h2 : (m : Int) ≤ (cap : Int) := by omega
  cases ao with
  | none =>
    obtain ⟨e1, e2⟩ := hno rfl
    obtain rfl : n = 0 := by omega
    have hl0 : l = [] := List.eq_nil_of_length_eq_zero (by omega)
    have HP : Hid (Inb (w.setCell ⟨b, 1, none⟩ (.slice none 0 0)) B b (.slice none 0 0) rm ov (l.drop 0) ∧ IAct w (w.setCell ⟨b, 1, none⟩ (.slice none 0 0)) b (.slice none 0 0) (.slice none 0 0)) := by
      have hi := HI.out
      rw [hm, e1, e2] at hi
      exact (hi.putV (World.grownBy.refl w _) (v' := .slice none 0 0) (l' := l.drop 0) (by simpa using hi.row) (.inl rfl) (by simpa using hi.le)).2
    subst e1 e2
    clear HI HS
    go_enter Try.func64, Try.ntmps64
    go_wp2
    go_end0
    exact ⟨rfl, _, by simpa [hl0] using HP.out.1, by simpa [hl0] using HP.out.2⟩
  | some a =>
    obtain ⟨hr, ha⟩ := HS.out a rfl
    have HP : Hid (Inb (w.setCell ⟨b, 1, none⟩ (.slice (if m = n then some a else some ⟨a.block, a.off + n, none⟩) (m - n) (m - n))) B b (.slice (if m = n then some a else some ⟨a.block, a.off + n, none⟩) (m - n) (m - n)) rm ov (l.drop n) ∧ IAct w (w.setCell ⟨b, 1, none⟩ (.slice (if m = n then some a else some ⟨a.block, a.off + n, none⟩) (m - n) (m - n))) b (.slice (some a) l.length cap) (.slice (if m = n then some a else some ⟨a.block, a.off + n, none⟩) (m - n) (m - n))) :=
      (HI.out.putV (World.grownBy.refl w _) hr (.inl (by by_cases e : m = n <;> simp [e, Value.ownBlock])) (by rw [List.length_drop]; omega)).2
    rw [hm] at HP
    have hm2 : Hid (l.length = m) := hm
    obtain ⟨ab, aoff, ar⟩ := a
    simp at ha
    subst ha
    clear HI HS hr
    by_cases e : m = n
    · subst e
      rw [if_pos rfl] at HP
      rw [Nat.sub_self] at HP
      go_enter Try.func64, Try.ntmps64
      go_wp2
      go_end0
      refine ⟨rfl, _, HP.out.1, ?_⟩
      have := HP.out.2
      rwa [← hm2.out] at this
    · rw [if_neg e] at HP
      have e2 : ¬ ((m : Int) - (n : Int) = 0) := by omega
      have e3 : ¬ (m - n = 0) := by omega
      go_enter Try.func64, Try.ntmps64
      go_wp2
      go_end0
      exact ⟨rfl, _, HP.out.1, HP.out.2⟩
end Go.Proofs.Ytckfmpoddmccfaa
