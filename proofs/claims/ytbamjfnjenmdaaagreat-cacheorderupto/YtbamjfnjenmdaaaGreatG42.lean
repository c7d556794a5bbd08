import Derived.Test.YtbamjfnjenmdaaaGreatG41
import Derived.Test.YtbamjfnjenmdaaaGreatzCPx
namespace Go.Proofs.YtbamjfnjenmdaaaGreat.C
open Go.RowKit Go.Maps Go.Shelf Go.Sort Go.Proofs.YtbamjfnjenmdaaaGreat
attribute [local go_sem] Oper.semAt_some
set_option linter.unusedVariables false
set_option linter.unusedSimpArgs false
set_option maxRecDepth 100000

theorem compact_upto {zs : List Int} (hs : zs.Pairwise (· ≤ ·)) : ∀ m, m ≤ zs.length → (Lib.compactUpTo zs.toArray m).Pairwise (· < ·) ∧ (∀ x ∈ Lib.compactUpTo zs.toArray m, x ∈ zs ∧ ∀ y, zs[m - 1]? = some y → 0 < m → x ≤ y) ∧ (Lib.compactUpTo zs.toArray m).length ≤ m
  | 0, _ => by simp [Lib.compactUpTo]
  | m + 1, hm => by
    obtain ⟨h1, h2, h3⟩ := compact_upto hs m (by omega)
    have hle : ∀ i j (hi : i < zs.length) (hj : j < zs.length), i < j → zs[i] ≤ zs[j] := List.pairwise_iff_getElem.1 hs
    have em : zs.toArray[m]! = zs[m] := by simp [show m < zs.length by omega]
    rw [Lib.compactUpTo_succ]
    by_cases hk : Lib.keeps zs.toArray m = true
    · rw [if_pos hk, em]
      refine ⟨?_, fun x hx => ?_, by simp; omega⟩
      · rw [List.pairwise_append]
        refine ⟨h1, by simp, fun a ha b hb => ?_⟩
        simp at hb
        subst hb
        have hm0 : 0 < m := by
          rcases Nat.eq_zero_or_pos m with e | e
          · subst e; simp [Lib.compactUpTo] at ha
          · exact e
        have hl := (h2 a ha).2 zs[m - 1] (List.getElem?_eq_getElem (by omega)) hm0
        have hl2 := hle (m - 1) m (by omega) (by omega) (by omega)
        have hne : zs[m] ≠ zs[m - 1] := fun e => by
          have := Lib.keeps_neg (d := zs.toArray) hm0 (by simp [show m < zs.length by omega, show m - 1 < zs.length by omega, e])
          rw [this] at hk
          cases hk
        omega
      · simp only [Nat.add_sub_cancel]
        rcases List.mem_append.1 hx with hx | hx
        · refine ⟨(h2 x hx).1, fun y hy _ => ?_⟩
          rw [List.getElem?_eq_getElem (by omega)] at hy
          cases hy
          rcases Nat.eq_zero_or_pos m with e | e
          · subst e; simp [Lib.compactUpTo] at hx
          · have hl := (h2 x hx).2 zs[m - 1] (List.getElem?_eq_getElem (by omega)) e
            have hl2 := hle (m - 1) m (by omega) (by omega) (by omega)
            omega
        · simp at hx
          subst hx
          refine ⟨List.getElem_mem _, fun y hy _ => ?_⟩
          rw [List.getElem?_eq_getElem (by omega)] at hy
          cases hy
          exact Int.le_refl _
    · rw [if_neg hk, List.append_nil]
      refine ⟨h1, fun x hx => ⟨(h2 x hx).1, fun y hy _ => ?_⟩, by omega⟩
      simp only [Nat.add_sub_cancel] at hy
      rw [List.getElem?_eq_getElem (by omega)] at hy
      cases hy
      rcases Nat.eq_zero_or_pos m with e | e
      · subst e; simp [Lib.compactUpTo] at hx
      · have hl := (h2 x hx).2 zs[m - 1] (List.getElem?_eq_getElem (by omega)) e
        have hl2 := hle (m - 1) m (by omega) (by omega) (by omega)
        omega
theorem compact_ok {zs : List Int} (hs : zs.Pairwise (· ≤ ·)) : (Lib.compact zs).Nodup ∧ (∀ x ∈ Lib.compact zs, x ∈ zs) ∧ (Lib.compact zs).length ≤ zs.length := by
  obtain ⟨h1, h2, h3⟩ := compact_upto hs zs.length (Nat.le_refl _)
  exact ⟨h1.imp (fun h => by omega), fun x hx => (h2 x hx).1, h3⟩
/-- doublets go -/
theorem compact_c {w : World} {B : Nat} {v : Value} {zs : List Int} (h : w.ownsRow B TIn 1 v zs.length (IV zs)) (hle : (Lib.compact zs).length ≤ zs.length) (hl : zs.length < 4611686018427387904) :
    Calls Tryz.prog 40 #[v] w fun e w' => ∃ v', e = .returned v' ∧ v'.ownBlock = v.ownBlock ∧ w'.ownsRow B TIn 1 v' (Lib.compact zs).length (IV (Lib.compact zs)) ∧ w'.os = w.os ∧ w'.tape = w.tape ∧ w'.output = w.output ∧ w.heap.size ≤ w'.heap.size ∧ ∀ i, i < w.heap.size → v.ownBlock ≠ some i → w'.heap[i]? = w.heap[i]? := by
  rcases h.2 with ⟨rfl, h0⟩ | ⟨g, cap, cur, rfl, hb, hg, hnc, hcm, hcs, htake⟩
  · have hz : zs = [] := List.length_eq_zero_iff.1 h0
    subst hz
    refine (Tryz.slices_Compact_int_empty none 0 w).mono ?_
    rintro e w' ⟨rfl, rfl⟩
    exact ⟨_, rfl, rfl, h, rfl, rfl, rfl, Nat.le_refl _, fun _ _ _ => rfl⟩
  · have hH : Holds (Value.int .i64) w g 0 zs.toArray := by
      intro j hj
      have hj' : j < zs.length := by simpa using hj
      have hx : zs[j]? = some (zs.toArray[j]!) := by simp [hj']
      have c1 := h.cells (g := g) rfl j _ (IV_get hx)
      rw [WideShapes.add_plain] at c1
      exact ⟨c1, h.frozenAt _⟩
    refine (Tryz.slices_Compact_int g 0 cap zs w hH (by omega) hnc).mono ?_
    rintro e w' ⟨rfl, n, rfl⟩
    have hblk : ∀ (d : Array Int) i, i ≠ g → (putRow (Value.int .i64) (Sort.ahead w n) g 0 d).heap[i]? = w.heap[i]? := fun d i hne => by
      unfold putRow mapBlock
      simp only
      rw [Array.getElem?_modify, if_neg (Ne.symm hne)]
      rfl
    have hself : ∀ (d : Array Int), (putRow (Value.int .i64) (Sort.ahead w n) g 0 d).heap[g]? = some (.cells (putCells (Value.int .i64) 0 d cur) TIn (0, 0)) := fun d => by
      unfold putRow mapBlock
      simp only
      rw [Array.getElem?_modify, if_pos rfl, ahead_block, hg]
      rfl
    refine ⟨_, rfl, rfl, ⟨by simp [IV], .inr ⟨g, cap, _, rfl, hb, hself _, by omega, hcm, by simp [putCells, hcs], ?_⟩⟩, rfl, rfl, rfl, ?_, fun i hi hne => hblk _ i (fun e => hne (by rw [e]; rfl))⟩
    · refine List.ext_getElem? fun i => ?_
      rw [List.getElem?_take]
      by_cases hi : i < (Lib.compact zs).length * 1
      · rw [if_pos hi]
        have hi' : i < (Lib.compact zs).length := by omega
        have hic : i < cur.size := by rw [hcs]; omega
        rw [Array.getElem?_toList, putCells, Array.getElem?_mapIdx, Array.getElem?_eq_getElem hic]
        simp only [Option.map_some]
        rw [if_pos ⟨by omega, by simp; omega⟩, IV_get (x := (Lib.compact zs)[i]) (List.getElem?_eq_getElem hi')]
        simp [hi', List.getElem?_append_left hi']
      · rw [if_neg hi, List.getElem?_eq_none (by simp [IV]; omega)]
    · unfold putRow mapBlock
      simp
def noteAt (L : List Ln) (s : Int) : Bool := match lineAt L s with
  | some l => l.note
  | none => false
/-- Through -/
def throughR (S : K.Dk) (C : Ch) (ks : List Int) : Int × K.Dk × Ch :=
  if ks.all (fun k => K.inD S.n k) = true then
    (if (ks.filter (dirtyAt C.L)).any (noteAt C.L) = true then flushR S C else settleR (Lib.compact (sortI (ks.filter (dirtyAt C.L)))) S C)
  else (31, S, C)
theorem dirt_thr {C : Ch} (ks : List Int) : Dirt (Lib.compact (sortI (ks.filter (dirtyAt C.L)))) C := by
  obtain ⟨h1, h2, _⟩ := compact_ok (sortI_sorted (ks.filter (dirtyAt C.L)))
  refine ⟨h1, fun s hs => ?_⟩
  have h3 := (List.mem_filter.1 ((sortI_perm _).mem_iff.1 (h2 s hs))).2
  unfold dirtyAt at h3
  cases hl : lineAt C.L s with
  | none => rw [hl] at h3; cases h3
  | some l => rw [hl] at h3; exact ⟨l, (lineAt_mem hl).1, (lineAt_mem hl).2, h3⟩
/-- numbers that were handed in -/
def IRw (w : World) (F : List Nat) (ao : Option Addr) (ks : List Int) : Prop := ∀ (k : Nat) (x : Int), ks[k]? = some x → ∃ g off, ao = some ⟨g, off, none⟩ ∧ g < w.heap.size ∧ g ∉ F ∧ w.cell? ⟨g, off + k, none⟩ = some (.int .i64 x)
section
variable {w w' : World} {P : Loc} {S S' : K.Dk} {C C' : Ch}
theorem CAct.grown {P' : Loc} {W' : World} {row : Option Nat} (ha : CAct w w' P P' C S' C') (hg : w'.grownBy W' row) (hr : ∀ k, row = some k → w.heap.size ≤ k) (hn : ∀ i ∈ P'.fp C'.L, row ≠ some i) : CAct w W' P P' C S' C' :=
  ⟨ha.rc.same fun i hi => hg.block i (ha.rc.lt i hi) (fun e => hn i hi e.symm), ha.kp.grown hg (fun k e => .inr (hr k e)), ha.sub, ha.bc, ha.bd⟩
theorem CAct.rowI {P' : Loc} {H n : Nat} {v : Value} {xs : List Value} (ha : CAct w w' P P' C S' C') (hH : ∀ i ∈ P.fp C.L, i < H) (ho : w.ownsRow H TIn 1 v n xs) : w'.ownsRow H TIn 1 v n xs :=
  K.ownsRow_block ho fun g hg => ha.kp.block g (K.row_lt ho g hg).1 (fun hm => by have := hH g hm; have := row_base ho hg; omega)
set_option maxHeartbeats 8000000 in
theorem through_c (h : RC w P S C) (hf : K.FsOk S.fs) (hq : S.q.length + dirtyN C.L < 1048576) {ao : Option Addr} {m cap : Nat} {ks : List Int} (hm : m = ks.length) (hml : m ≤ 1048576) (hr : IRw w (P.fp C.L) ao ks) :
    Calls Tryz.prog 14 #[.pointer (some ⟨P.bc, 0, none⟩), .slice ao m cap] w fun r w' => r = .returned (.int .i64 (throughR S C ks).1) ∧ ∃ P', CAct w w' P P' C (throughR S C ks).2.1 (throughR S C ks).2.2 := by
  have hu := usable_c h
  obtain ⟨i0, hi, hz0, hz1, hz2⟩ := info_parts I.A.infoKey
  have hn1 := h.rk.n1
  have HM : Hid (m = ks.length) := hm
  have HLT : Hid (∀ i ∈ P.fp C.L, i < w.heap.size) := h.lt
  have H0 : Hid (CAct w w P P C S C) := CAct.refl h
  have HR : Hid (∀ W, CAct w W P P C S C → ∀ (k : Nat) (x : Int), ks[k]? = some x → ∃ g off, ao = some ⟨g, off, none⟩ ∧ W.cell? ⟨g, off + k, none⟩ = some (.int .i64 x)) := fun W ha k x hk => by
    obtain ⟨g, off, e, h1, h2, h3⟩ := hr k x hk
    refine ⟨g, off, e, ?_⟩
    have hb := ha.kp.block g h1 h2
    unfold World.cell? at h3 ⊢
    rw [hb]; exact h3
  have HH : Hid (∀ W, CAct w W P P C S C → ∀ x, Calls Tryz.prog 38 #[.pointer (some ⟨P.bc, 0, none⟩), .int .i64 x] W fun r w' => r = .returned (.bool (K.inD S.n x)) ∧ CAct W w' P P C S C) := fun W ha x => has_c ha.rc x
  have HC : Hid (∀ W, CAct w W P P C S C → W.cell? ⟨P.bc, 3, none⟩ = some (.map (some P.bl))) := fun W ha => ha.rc.c 3
  have HLk : Hid (∀ W, CAct w W P P C S C → ∀ x, K.inD S.n x = true → (Instr.lookup TLm (.map (some P.bl)) (.int .i64 x) false).run Tryz.prog W = .ok (linePtr (lineAt C.L x)) W) := fun W ha x hx => by
    obtain ⟨t, rfl, ht⟩ := inD_nat hx
    exact ha.rc.look (K.wfI t (by omega))
  have HLn : Hid (∀ W, CAct w W P P C S C → ∀ l ∈ C.L, W.cell? ⟨l.blk, 512, none⟩ = some (.bool l.dirty) ∧ W.cell? ⟨l.blk, 513, none⟩ = some (.bool l.note)) := fun W ha l hl => ⟨(ha.rc.lcell hl 512).trans (lcells_dirty (ha.rc.ok l hl).2), (ha.rc.lcell hl 513).trans (lcells_note (ha.rc.ok l hl).2)⟩
  have HFl : Hid (∀ W, CAct w W P P C S C → Calls Tryz.prog 13 #[.pointer (some ⟨P.bc, 0, none⟩)] W fun r w' => r = .returned (.int .i64 (flushR S C).1) ∧ ∃ P', CAct w w' P P' C (flushR S C).2.1 (flushR S C).2.2) := fun W ha => by
    refine (flush_c ha.rc hf hq).mono ?_
    rintro r w' ⟨rfl, P', ha'⟩
    exact ⟨rfl, P', ha.trans ha'⟩
  have HSo : Hid (∀ W v, CAct w W P P C S C → W.ownsRow w.heap.size TIn 1 v (ks.filter (dirtyAt C.L)).length (IV (ks.filter (dirtyAt C.L))) → Calls Tryz.prog 39 #[v] W fun r W1 => r = .returned (.tuple #[]) ∧ Calls Tryz.prog 40 #[v] W1 fun r W2 => ∃ v', r = .returned v' ∧ Calls Tryz.prog 36 #[.pointer (some ⟨P.bc, 0, none⟩), v'] W2 fun r w' => r = .returned (.int .i64 (settleR (Lib.compact (sortI (ks.filter (dirtyAt C.L)))) S C).1) ∧ ∃ P', CAct w w' P P' C (settleR (Lib.compact (sortI (ks.filter (dirtyAt C.L)))) S C).2.1 (settleR (Lib.compact (sortI (ks.filter (dirtyAt C.L)))) S C).2.2) := fun W v ha ho => by
    have hfl : (ks.filter (dirtyAt C.L)).length ≤ 1048576 := by have := List.length_filter_le (dirtyAt C.L) ks; omega
    have key : ∀ {W W' : World}, CAct w W P P C S C → (∀ g, v.ownBlock = some g → w.heap.size ≤ g) → W'.os = W.os → W'.tape = W.tape → W'.output = W.output → W.heap.size ≤ W'.heap.size → (∀ i, i < W.heap.size → v.ownBlock ≠ some i → W'.heap[i]? = W.heap[i]?) → CAct w W' P P C S C := fun {W W'} ha hv e1 e2 e3 e4 e5 => ha.grown (row := v.ownBlock) ⟨e1, e2, e3, e4, fun k hk hne => e5 k hk (fun e => hne e.symm)⟩ hv (fun i hi e => by have := hv i e; have := h.lt i hi; omega)
    have hv : ∀ g, v.ownBlock = some g → w.heap.size ≤ g := fun g hg => row_base ho hg
    refine (sort_c ho (by omega)).mono ?_
    rintro r W1 ⟨rfl, ho1, a1, a2, a3, a4, a5⟩
    have ha1 := key ha hv a1 a2 a3 a4 a5
    obtain ⟨hcn, hcm, hcl⟩ := compact_ok (sortI_sorted (ks.filter (dirtyAt C.L)))
    have hsl : (sortI (ks.filter (dirtyAt C.L))).length = (ks.filter (dirtyAt C.L)).length := (sortI_perm _).length_eq
    rw [← hsl] at ho1
    refine ⟨rfl, (compact_c ho1 hcl (by omega)).mono ?_⟩
    rintro r W2 ⟨v', rfl, hvb, ho2, b1, b2, b3, b4, b5⟩
    have ha2 := key ha1 hv b1 b2 b3 b4 b5
    refine ⟨v', rfl, ?_⟩
    have hdt := dirt_thr (C := C) ks
    have hkl : (Lib.compact (sortI (ks.filter (dirtyAt C.L)))).length ≤ 65536 := by
      have h1 := nodup_sub_len hdt.nd (b := secs C.L) (fun x hx => by
        obtain ⟨l, hl, e, _⟩ := hdt.has x hx
        exact List.mem_map.2 ⟨l, hl, e⟩)
      have := h.lim
      simp only [secs, List.length_map] at h1
      omega
    refine (settle_c ha2.rc hf hq ho2 (fun g hg hm => by have := row_base ho2 hg; have := h.lt g hm; omega) hdt hkl).mono ?_
    rintro r w' ⟨rfl, P', ha'⟩
    exact ⟨rfl, P', ha2.trans ha'⟩
  clear h hf hq hr hm
  go_enter Tryz.func14, Tryz.ntmps14
  go_wp2_with (go_at_call 33; refine hu.mono ?_; rintro e w9 ⟨rfl, hw9⟩; rw [hw9]; clear hw9 hu)
  go_loopw [5, 6, 15] (fun dv nv i wr => ∃ (k : Nat), k ≤ m ∧ i = .int .i64 k ∧ nv = .bool (((ks.take k).filter (dirtyAt C.L)).any (noteAt C.L)) ∧ Hid (wr.ownsRow w.heap.size TIn 1 dv ((ks.take k).filter (dirtyAt C.L)).length (IV ((ks.take k).filter (dirtyAt C.L)))) ∧ Hid (CAct w wr P P C S C) ∧ Hid ((ks.take k).all (fun k => K.inD S.n k) = true)) (fun _ _ i _ => m - (intOf i).toNat)
  case atStart => exact ⟨0, Nat.zero_le _, rfl, rfl, World.ownsRow_nil _ _ _ _, H0, rfl⟩
  case round =>
    obtain ⟨k, hk, rfl, rfl, HO, HA, HAL⟩ := hrel
    obtain ⟨da, dc, hdv⟩ := int_form HO.out
    subst hdv
    generalize hfd : (ks.take k).filter (dirtyAt C.L) = d at *
    generalize hany : d.any (noteAt C.L) = an at *
    have HANY : Hid (d.any (noteAt C.L) = an) := hany
    have HFD : Hid ((ks.take k).filter (dirtyAt C.L) = d) := hfd
    clear hany hfd
    by_cases hlt : k < m
    · have hkz : (k : Int) < (m : Int) := by omega
      obtain ⟨x, hx⟩ : ∃ x, ks[k]? = some x := ⟨_, List.getElem?_eq_getElem (by have := HM.out; omega)⟩
      obtain ⟨g, off, rfl, c1⟩ := HR.out wr HA.out k x hx
      have HT : Hid (ks.take (k + 1) = ks.take k ++ [x]) := by show _ = _; rw [List.take_add_one, hx]; rfl
      have hh := HH.out wr HA.out x
      by_cases hin : K.inD S.n x = true
      · rw [hin] at hh
        have HX : Hid (∀ w1, CAct wr w1 P P C S C → CAct w w1 P P C S C ∧ w1.cell? ⟨P.bc, 3, none⟩ = some (.map (some P.bl)) ∧ (Instr.lookup TLm (.map (some P.bl)) (.int .i64 x) false).run Tryz.prog w1 = .ok (linePtr (lineAt C.L x)) w1 ∧ w1.ownsRow w.heap.size TIn 1 (.slice da d.length dc) d.length (IV d)) := fun w1 ha1 => by
          have ha := HA.out.trans ha1
          exact ⟨ha, HC.out w1 ha, HLk.out w1 ha x hin, ha1.rowI HLT.out HO.out⟩
        have HAL2 : Hid ((ks.take (k + 1)).all (fun k => K.inD S.n k) = true) := by show _ = _; rw [HT.out, List.all_append, HAL.out]; simp [hin]
        cases hl : lineAt C.L x with
        | none =>
          have hd : dirtyAt C.L x = false := by unfold dirtyAt; rw [hl]
          have HF : Hid ((ks.take (k + 1)).filter (dirtyAt C.L) = d) := by show _ = _; rw [HT.out, List.filter_append, HFD.out]; simp [hd]
          simp only [hl, linePtr] at HX
          have e1 := neq_lp_none
          clear hx hd hl hin HH HR HC HLk HLn HFl HSo
          go_wp2_with (go_at_call 38; refine hh.mono ?_; clear hh; rintro r w1 ⟨rfl, ha1⟩; obtain ⟨ha, c3, hlk, ho1⟩ := HX.out w1 ha1; have HA1 : Hid (CAct w w1 P P C S C) := ha; have HO1 : Hid (w1.ownsRow w.heap.size TIn 1 (.slice da d.length dc) d.length (IV d)) := ho1; clear ha ho1 ha1)
          go_roundw
          case rel => exact ⟨k + 1, by omega, by go_num, by rw [HF.out, HANY.out], by rw [HF.out]; exact HO1, HA1, HAL2⟩
          case measure => simp [intOf]; omega
        | some l =>
          obtain ⟨hlm, hls⟩ := lineAt_mem hl
          simp only [hl, linePtr] at HX
          have e1 := neq_lp_some
          have HLN : Hid (∀ w1, CAct w w1 P P C S C → w1.cell? ⟨l.blk, 512, none⟩ = some (.bool l.dirty) ∧ w1.cell? ⟨l.blk, 513, none⟩ = some (.bool l.note)) := fun w1 ha => HLn.out w1 ha l hlm
          have hd : dirtyAt C.L x = l.dirty := by unfold dirtyAt; rw [hl]
          have hnt : noteAt C.L x = l.note := by unfold noteAt; rw [hl]
          have HF : Hid ((ks.take (k + 1)).filter (dirtyAt C.L) = d ++ (if l.dirty = true then [x] else [])) := by
            show _ = _
            rw [HT.out, List.filter_append, HFD.out, List.filter_cons, hd]; rfl
          have HNt : Hid (noteAt C.L x = l.note) := hnt
          have HFL : Hid (d.length ≤ 1048576) := by
            have h1 := List.length_filter_le (dirtyAt C.L) (ks.take k)
            rw [HFD.out] at h1
            have h2 : (ks.take k).length ≤ k := List.length_take_le _ _
            show _ ≤ _
            omega
          clear hx hd hl hin HH HR HC HLk HLn HFl HSo hlm hls hnt
          generalize l.dirty = dy at *
          generalize l.note = nt at *
          cases dy
          · go_wp2_with (go_at_call 38; refine hh.mono ?_; clear hh; rintro r w1 ⟨rfl, ha1⟩; obtain ⟨ha, c3, hlk, ho1⟩ := HX.out w1 ha1; obtain ⟨cd, cn⟩ := HLN.out w1 ha; have HA1 : Hid (CAct w w1 P P C S C) := ha; have HO1 : Hid (w1.ownsRow w.heap.size TIn 1 (.slice da d.length dc) d.length (IV d)) := ho1; clear ha ho1 ha1)
            go_roundw
            case rel => exact ⟨k + 1, by omega, by go_num, by rw [HF.out]; simp [HANY.out], by rw [HF.out]; show World.ownsRow _ _ _ _ _ _ _; simpa using HO1.out, HA1, HAL2⟩
            case measure => simp [intOf]; omega
          · cases an <;>
            · go_wp2_with (first | (go_at_call 38; refine hh.mono ?_; clear hh; rintro r w1 ⟨rfl, ha1⟩; obtain ⟨ha, c3, hlk, ho1⟩ := HX.out w1 ha1; obtain ⟨cd, cn⟩ := HLN.out w1 ha; have HA1 : Hid (CAct w w1 P P C S C) := ha; have HO1 : Hid (w1.ownsRow w.heap.size TIn 1 (.slice da d.length dc) d.length (IV d)) := ho1; clear ha ho1 ha1) | (at_builtin; refine wpList_append_own_at _ rfl _ _ 33 rfl w.heap.size TIn i0 _ 1 8 Tryz.underlying33 hi hz0 hz1 hz2 rfl (by decide) (.slice da d.length dc) d.length (IV d) rfl (HO1.out.alloc _) ⟨w1.heap.size, 0, none⟩ 1 1 [.int .i64 x] rfl rfl (I.A.news1 _ _) (by simp [Value.oneCell']) (by have := HFL.out; unfold maxLen; omega) (by have := HFL.out; omega) (by have := HA1.out.kp.size; simp; omega) ?_; intro v' w5 hown5 hgrow5 _ hat5; have HO5 : Hid (w5.ownsRow w.heap.size TIn 1 v' (d ++ [x]).length (IV (d ++ [x]))) := (by rw [List.length_append, IV, List.map_append]; exact hown5); have HA5 : Hid (CAct w w5 P P C S C) := ((HA1.out.grown (World.grownBy_alloc w1 _ none) (fun k e => by cases e) (fun i _ e => by cases e)).grown hgrow5 (fun k e => row_base HO1.out e) (fun i hi e => by have h1 := row_base HO1.out e; have h2 := HLT.out i hi; omega)); obtain ⟨cd5, cn5⟩ := HLN.out w5 HA5.out; clear hown5 hgrow5 hat5))
              go_roundw
              case rel => exact ⟨k + 1, by omega, by go_num, by rw [HF.out]; simp [HANY.out, HNt.out], by rw [HF.out]; show World.ownsRow _ _ _ _ _ _ _; simpa using HO5.out, HA5, HAL2⟩
              case measure => simp [intOf]; omega
      · have hin' : K.inD S.n x = false := by simpa using hin
        rw [hin'] at hh
        have HALL : Hid (¬ ks.all (fun k => K.inD S.n k) = true) := fun hall => by
          rw [List.all_eq_true] at hall
          have := hall x (List.mem_of_getElem? hx)
          rw [hin'] at this
          cases this
        clear hx hin hin' HH HR HC HLk HLn HFl HSo
        go_wp2_with (go_at_call 38; refine hh.mono ?_; clear hh; rintro r w1 ⟨rfl, ha1⟩)
        go_ret
        have e : throughR S C ks = (31, S, C) := by unfold throughR; rw [if_neg HALL.out]
        rw [e]
        exact ⟨rfl, P, HA.out.trans ha1⟩
    · have hkz : ¬ (k : Int) < (m : Int) := by omega
      have HE : Hid (ks.take k = ks) := List.take_of_length_le (by have := HM.out; omega)
      have hd2 : d = ks.filter (dirtyAt C.L) := by rw [← HFD.out, HE.out]
      subst hd2
      rw [HE.out] at HAL
      have HTE : Hid (throughR S C ks = if an = true then flushR S C else settleR (Lib.compact (sortI (ks.filter (dirtyAt C.L)))) S C) := by show _ = _; unfold throughR; rw [if_pos HAL.out, HANY.out]
      have hfl := HFl.out wr HA.out
      have hso := HSo.out wr (.slice da (ks.filter (dirtyAt C.L)).length dc) HA.out HO.out
      clear HH HR HC HLk HLn HFl HSo
      cases an
      · go_wp2_with (first | (go_at_call 39; refine hso.mono ?_; clear hso; rintro r w1 ⟨rfl, hco⟩) | (go_at_call 40; refine hco.mono ?_; clear hco; rintro r w2 ⟨v2, rfl, hst⟩) | (go_at_call 36; refine hst.mono ?_; clear hst; rintro r w3 ⟨rfl, ha3⟩))
        go_ret
        rw [HTE.out, if_neg (by simp)]
        exact ⟨rfl, ha3⟩
      · go_wp2_with (go_at_call 13; refine hfl.mono ?_; clear hfl; rintro r w1 ⟨rfl, ha1⟩)
        go_ret
        have e : throughR S C ks = flushR S C := by rw [HTE.out]; simp
        rw [e]
        exact ⟨rfl, ha1⟩
end
end Go.Proofs.YtbamjfnjenmdaaaGreat.C

namespace Go.Proofs.YtbamjfnjenmdaaaGreat.C
open Go.RowKit Go.Maps Go.Shelf Go.Proofs.YtbamjfnjenmdaaaGreat
attribute [local go_sem] Oper.semAt_some
set_option linter.unusedVariables false
set_option linter.unusedSimpArgs false
set_option maxRecDepth 100000

abbrev TPts : TypeId := 67
abbrev TPt : TypeId := 70
abbrev TBy : TypeId := 44
/-- writes that were told, in cells -/
def PtR (w : World) (ao : Option Addr) (ps : List K.Pv) : Prop := ∀ k p, ps[k]? = some p → ∃ g, ao = some ⟨g, 0, none⟩ ∧ g < w.heap.size ∧ w.cell? ⟨g, k * 2, none⟩ = some (.int .i64 p.1) ∧ w.cell? ⟨g, k * 2 + 1, none⟩ = some p.2.1
theorem qcells_get (l : List K.Pv) (k : Nat) (p : K.Pv) (h : l[k]? = some p) : (K.qcells l)[k * 2]? = some (.int .i64 p.1) ∧ (K.qcells l)[k * 2 + 1]? = some p.2.1 := by
  induction l generalizing k with
  | nil => simp at h
  | cons a t ih =>
    cases k with
    | zero => simp at h; subst h; simp [K.qcells, K.qcell]
    | succ k =>
      have := ih k (by simpa using h)
      simp only [K.qcells, K.qcell, List.flatMap_cons] at this ⊢
      constructor
      · rw [show (k + 1) * 2 = k * 2 + 2 by omega]; simpa using this.1
      · rw [show (k + 1) * 2 + 1 = k * 2 + 1 + 2 by omega]; simpa using this.2
theorem told_form {w : World} {B : Nat} {v : Value} {ps : List K.Pv} (h : K.Told w B v ps) : ∃ ao cap, v = .slice ao ps.length cap ∧ PtR w ao ps := by
  rcases h.row.2 with ⟨rfl, h0⟩ | ⟨g, cap, cur, rfl, _, hg, _⟩
  · exact ⟨none, 0, by rw [h0], fun k p hk => by have := (List.getElem?_eq_some_iff.1 hk).1; omega⟩
  · refine ⟨_, cap, rfl, fun k p hk => ?_⟩
    obtain ⟨h1, h2⟩ := qcells_get ps k p hk
    have c1 := h.row.cells (g := g) rfl _ _ h1
    have c2 := h.row.cells (g := g) rfl _ _ h2
    rw [WideShapes.add_plain, Nat.zero_add] at c1 c2
    exact ⟨g, rfl, (Array.getElem?_eq_some_iff.1 hg).1, c1, c2⟩
/-- the queue, told -/
theorem queue_c {w : World} {P : Loc} {S : K.Dk} {C : Ch} (h : RC w P S C) (hq : S.q.length ≤ 1048576) :
    Calls Tryz.prog 22 #[.pointer (some ⟨P.bd, 0, none⟩)] w fun r w' => ∃ ao cap ps, r = .returned (.slice ao ps.length cap) ∧ PtR w' ao ps ∧ (∀ p ∈ ps, w'.ownsRow w.heap.size 5 1 p.2.1 512 (p.2.2.map bv)) ∧ ps.map K.bare = S.q ∧ CAct w w' P P C S C := by
  refine (K.queue_any h.rk hq).mono ?_
  rintro r w' ⟨v, ps, rfl, ht, hb, hda⟩
  obtain ⟨ao, cap, rfl, hp⟩ := told_form ht
  exact ⟨ao, cap, ps, rfl, hp, ht.dat, hb, h.dsame hda⟩
theorem image_c {w : World} {P : Loc} {S : K.Dk} {C : Ch} (h : RC w P S C) :
    Calls Tryz.prog 17 #[.pointer (some ⟨P.bd, 0, none⟩)] w fun r w' => ∃ g cap, r = .returned (.slice (some ⟨g, 0, none⟩) (S.n * 512) cap) ∧ S.n * 512 ≤ cap ∧ w.heap.size ≤ g ∧ w'.ownsRow w.heap.size 5 1 (.slice (some ⟨g, 0, none⟩) (S.n * 512) cap) (S.n * 512) ((K.imgL S.n S.safe).map bv) ∧ CAct w w' P P C S C := by
  refine (K.image_any h.rk).mono ?_
  rintro r w' ⟨v, rfl, ho, hda⟩
  have h0 := h.rk.n0
  rcases ho.2 with ⟨_, hz⟩ | ⟨g, cap, cur, rfl, hb, hg, hc, _⟩
  · omega
  · exact ⟨g, cap, rfl, hc, hb, ho, h.dsame hda⟩
end Go.Proofs.YtbamjfnjenmdaaaGreat.C
