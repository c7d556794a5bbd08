import Derived.Test.YtefgdhoapmikhaaDoorRpP
import Derived.Test.YtefgdhoapmikhaaDoorRpC
import Derived.Deep.DeepCutAuto
namespace Go.Proofs.YtefgdhoapmikhaaDoor
open Go.RowKit
set_option linter.unusedVariables false
set_option linter.unusedSimpArgs false
set_option maxRecDepth 100000
/-- a run's bytes, and a status' -/
def rnL (wide : Bool) (x : Rn) : List Nat := nL x.ln wide ++ nL x.fl wide
def stH (wide : Bool) (cx n : Nat) : List Nat := [] ++ bigTo cx 4 4 ++ (if wide = true then bigTo n 4 4 else [])
def stL (wide : Bool) (cx : Nat) (l : List Rn) : List Nat := stH wide cx l.length ++ l.flatMap (rnL wide)
def nrP (wide : Bool) (l : List Rn) : Prop := ∀ x ∈ l, wide = true ∨ (x.ln < 4294967296 ∧ x.fl < 4294967296)
theorem rnL_le (wide : Bool) (x : Rn) : (rnL wide x).length ≤ 16 := by
  have h1 := nL_le x.ln wide
  have h2 := nL_le x.fl wide
  simp only [rnL, List.length_append]; omega
theorem rnLs_le (wide : Bool) : ∀ (l : List Rn), (l.flatMap (rnL wide)).length ≤ l.length * 16
  | [] => by simp
  | x :: l => by
    have h1 := rnLs_le wide l
    have h2 := rnL_le wide x
    rw [List.flatMap_cons, List.length_append, List.length_cons]; omega
theorem stH_le (wide : Bool) (cx n : Nat) : (stH wide cx n).length ≤ 8 := by unfold stH; split <;> simp [bigTo_length]
set_option maxHeartbeats 1000000 in
theorem statusFits_true (cx b po pc n : Nat) (wide : Bool) (P : List Rn) (w : World) (h : RuRow w (some ⟨b, po, none⟩) P) (HN : Hid (P.length = n)) (hn0 : 0 < n) (hf : nrP wide P) :
    Calls Tryd.prog 115 #[.agg #[.int .u32 (cx : Int), .slice (some ⟨b, po, none⟩) n pc], .bool wide] w fun e w' => e = .returned (.bool true) ∧ Below w.heap.size w w' := by
  have hn : n ≤ 1048576 := HN.out ▸ h.len
  have HR : Hid (RuRow w (some ⟨b, po, none⟩) P) := h
  have HF : Hid (nrP wide P) := hf
  clear h hf
  go_enter Tryd.func115, Tryd.ntmps115
  go_wp2
  have hb1 := below1 w (Obj.cells #[.int .u32 (cx : Int), .slice (some ⟨b, po, none⟩) n pc] 90)
  have hx1 := heap_new w (Obj.cells #[.int .u32 (cx : Int), .slice (some ⟨b, po, none⟩) n pc] 90)
  have hsz : w.heap.size < (w.alloc (Obj.cells #[.int .u32 (cx : Int), .slice (some ⟨b, po, none⟩) n pc] 90)).heap.size := by simp
  generalize w.alloc (Obj.cells #[.int .u32 (cx : Int), .slice (some ⟨b, po, none⟩) n pc] 90) = W0 at *
  have HB1 : Hid (Below w.heap.size w W0) := hb1
  have HX1 : Hid _ := hx1
  clear hb1 hx1
  go_loopw [10] (fun i wr => ∃ k : Nat, k ≤ n ∧ i = .int .i64 (k : Int) ∧ Hid (Below W0.heap.size W0 wr)) (fun i _ => n - (intOf i).toNat)
  case atStart => exact ⟨0, Nat.zero_le _, rfl, Below.refl _ _⟩
  case round =>
    obtain ⟨k, hk, rfl, HB⟩ := hrel
    by_cases hlt : k < n
    · have hkl : k < P.length := by rw [HN.out]; exact hlt
      have hrow : RuRow wr (some ⟨b, po, none⟩) P := (HR.out.later HB1.out).later HB.out
      have g0 := hrow.cell b po rfl k hkl 0 (by decide)
      have g1 := hrow.cell b po rfl k hkl 1 (by decide)
      have hok := hrow.ok _ (List.getElem_mem hkl)
      have hnr := HF.out _ (List.getElem_mem hkl)
      generalize P[k] = p at *
      obtain ⟨l, f⟩ := p
      obtain ⟨k1, k2⟩ := hok
      simp only at k1 k2 hnr
      simp only [Rn.cells] at g0 g1
      simp at g0 g1
      have HB2 : Hid (Below W0.heap.size W0 (wr.alloc (.cells #[.int .u64 (l : Int), .int .u64 (f : Int)] 87))) := HB.out.alloc HB.out.size _
      clear hrow
      rcases wide with _ | _
      all_goals go_wp2
      all_goals first
        | (exfalso
           simp at hnr
           omega)
        | (exfalso
           rename_i ha _
           simp at hnr
           rcases ha with ha | ha <;> (try simp at ha) <;> omega)
        | (go_roundw
           case rel => exact ⟨k + 1, by omega, by go_num, HB2⟩
           case measure => simp [intOf]; omega)
    · have hbx := (HB.out.block _ hsz).trans HX1.out
      have r1 : wr.cell? ⟨w.heap.size, 1, none⟩ = some (.slice (some ⟨b, po, none⟩) n pc) := by rw [blk_at hbx]; rfl
      have hn1 : (0 : Int) < (n : Int) := by omega
      have HBe : Hid (Below w.heap.size w wr) := HB1.out.trans (HB.out.mono (Nat.le_of_lt hsz))
      clear hbx HB
      go_wp2
      go_ret
      exact ⟨by simp, HBe.out⟩
theorem Enc.later {w W W' : World} {b0 p : Nat} {v : Value} {l : List Nat} {ob : Obj} (h : Enc w W b0 p v l ob) (k : Below W.heap.size W W') : Enc w W' b0 p v l ob :=
  ⟨h.ok.later (S := fun _ => False) (KeptIn.ofBelow k) (fun h => h) (fun _ _ h => h), h.bel.trans (k.mono h.bel.size), (k.block _ (block_lt h.box)).trans h.box, h.ne, h.nv⟩
theorem stL_step (wide : Bool) (P : List Rn) (k : Nat) (hk : k < P.length) (A : List Nat) : A ++ (P.take k).flatMap (rnL wide) ++ nL P[k].ln wide ++ nL P[k].fl wide = A ++ (P.take (k + 1)).flatMap (rnL wide) := by
  rw [List.take_succ_eq_append_getElem hk, List.flatMap_append]
  simp [rnL]
set_option maxHeartbeats 2000000 in
theorem packStatus (cx b po pc n : Nat) (wide : Bool) (P : List Rn) (w : World) (h : RuRow w (some ⟨b, po, none⟩) P) (HN : Hid (P.length = n)) (hn0 : 0 < n) (hf : nrP wide P) (hcx : cx < 4294967296) :
    Calls Tryd.prog 100 #[.agg #[.int .u32 (cx : Int), .slice (some ⟨b, po, none⟩) n pc], .bool wide] w fun e w' => ∃ ao cap, e = .returned (.tuple #[.slice ao (stL wide cx P).length cap, .int .i64 0]) ∧ Row w w' ao cap (stL wide cx P) := by
  have hn : n ≤ 1048576 := HN.out ▸ h.len
  have HR : Hid (RuRow w (some ⟨b, po, none⟩) P) := h
  obtain ⟨W0, hW0⟩ : ∃ W0, W0 = w.alloc (.cells #[.int .u32 (cx : Int), .slice (some ⟨b, po, none⟩) n pc] 90) := ⟨_, rfl⟩
  have hbW : Below w.heap.size w W0 := by rw [hW0]; exact below1 w _
  have hxW : W0.heap[w.heap.size]? = some (.cells #[.int .u32 (cx : Int), .slice (some ⟨b, po, none⟩) n pc] 90 (0, 0)) := by rw [hW0]; exact heap_new w _
  have HSf : Hid _ := statusFits_true cx b po pc n wide P W0 (h.later hbW) HN hn0 hf
  have HBW : Hid _ := hbW
  have HXW : Hid _ := hxW
  have c0 : W0.cell? ⟨w.heap.size, 0, none⟩ = some (.int .u32 (cx : Int)) := by rw [blk_at hxW]; rfl
  have c1 : W0.cell? ⟨w.heap.size, 1, none⟩ = some (.slice (some ⟨b, po, none⟩) n pc) := by rw [blk_at hxW]; rfl
  have wn : IntKind.u32.wrap (n : Int) = (n : Int) := by rw [IntKind.wrap_u32]; omega
  clear h hf hbW hxW
  go_enter Tryd.func100, Tryd.ntmps100
  go_wp2_with fail
  rw [← hW0]
  refine Calls.mono HSf.out ?_
  rintro e w1 ⟨rfl, hb1⟩
  have HB1 : Hid (Below w.heap.size w w1) := HBW.out.trans (hb1.mono HBW.out.size)
  have HX1 : Hid (w1.heap[w.heap.size]? = some (.cells #[.int .u32 (cx : Int), .slice (some ⟨b, po, none⟩) n pc] 90 (0, 0))) := (hb1.block _ (block_lt HXW.out)).trans HXW.out
  clear hb1 HSf c0 c1 HBW HXW hW0
  go_wp2_with fail
  refine (newWriter_any w1).mono ?_
  rintro e w2 ⟨rfl, hw2⟩
  have H2 : Hid (Enc w w2 w.heap.size w1.heap.size (.slice none 0 0) [] (.cells #[.int .u32 (cx : Int), .slice (some ⟨b, po, none⟩) n pc] 90)) := by rw [hw2]; exact Enc.new HB1.out HX1.out
  clear hw2
  generalize w1.heap.size = p at *
  have c0 : w2.cell? ⟨w.heap.size, 0, none⟩ = some (.int .u32 (cx : Int)) := (H2.out.c 0).trans rfl
  go_wp2_with fail
  refine (wu32_any w.heap.size p cx _ _ w2 H2.out.ok hcx (by simp) H2.out.hB).mono ?_
  rintro e w3 ⟨rfl, v3, hp3⟩
  have H3 : Hid _ := H2.out.step hp3
  have c1 : w3.cell? ⟨w.heap.size, 1, none⟩ = some (.slice (some ⟨b, po, none⟩) n pc) := (H3.out.c 1).trans rfl
  clear hp3 H2 c0
  go_upto_if 18 with fail
  go_cut [] (fun wc => ∃ v, Hid (Enc w wc w.heap.size p v (stH wide cx n) (.cells #[.int .u32 (cx : Int), .slice (some ⟨b, po, none⟩) n pc] 90)))
  case first =>
    rcases wide with _ | _
    · go_wp2
      go_meet
      exact ⟨v3, H3.out⟩
    · go_wp2_with fail
      refine (wu32_any w.heap.size p n _ _ w3 H3.out.ok (by omega) (by simp [bigTo_length]) H3.out.hB).mono ?_
      rintro e w4 ⟨rfl, v4, hp4⟩
      have H4 : Hid _ := H3.out.step hp4
      clear hp4
      go_wp2
      go_meet
      exact ⟨v4, H4.out⟩
  case rest =>
    obtain ⟨v4, H4⟩ := hcut
    clear H3 c1
    have c1 : wc.cell? ⟨w.heap.size, 1, none⟩ = some (.slice (some ⟨b, po, none⟩) n pc) := (H4.out.c 1).trans rfl
    go_wp2
    go_loopw [28] (fun i wr => ∃ (k : Nat) (v : Value), k ≤ n ∧ i = .int .i64 (k : Int) ∧ Hid (Enc w wr w.heap.size p v (stH wide cx n ++ (P.take k).flatMap (rnL wide)) (.cells #[.int .u32 (cx : Int), .slice (some ⟨b, po, none⟩) n pc] 90))) (fun i _ => n - (intOf i).toNat)
    case atStart => exact ⟨0, v4, Nat.zero_le _, rfl, by simpa using H4⟩
    case round =>
      obtain ⟨k, v, hk, rfl, HE⟩ := hrel
      clear H4 c1
      by_cases hlt : k < n
      · have hkl : k < P.length := by rw [HN.out]; exact hlt
        have hrow : RuRow wr (some ⟨b, po, none⟩) P := HR.out.later HE.out.bel
        have g0 := hrow.cell b po rfl k hkl 0 (by decide)
        have g1 := hrow.cell b po rfl k hkl 1 (by decide)
        have hok := hrow.ok _ (List.getElem_mem hkl)
        have HT : Hid _ := stL_step wide P k hkl (stH wide cx n)
        have hLn : (stH wide cx n ++ (P.take k).flatMap (rnL wide)).length ≤ 33554432 := by
          have h1 := stH_le wide cx n
          have h2 := rnLs_le wide (P.take k)
          rw [List.length_take] at h2
          rw [List.length_append]; omega
        generalize hp : P[k] = q at *
        clear hp
        obtain ⟨l, f⟩ := q
        obtain ⟨k1, k2⟩ := hok
        simp only at k1 k2 HT
        simp only [Rn.cells] at g0 g1
        simp at g0 g1
        have HEa : Hid (Enc w (wr.alloc (.cells #[.int .u64 (l : Int), .int .u64 (f : Int)] 87)) w.heap.size p v (stH wide cx n ++ (P.take k).flatMap (rnL wide)) (.cells #[.int .u32 (cx : Int), .slice (some ⟨b, po, none⟩) n pc] 90)) := HE.out.later (below1 wr _)
        have hbx : (wr.alloc (.cells #[.int .u64 (l : Int), .int .u64 (f : Int)] 87)).heap[wr.heap.size]? = some (.cells #[.int .u64 (l : Int), .int .u64 (f : Int)] 87 (0, 0)) := heap_new wr _
        have HBx : Hid _ := hbx
        have hne : wr.heap.size ≠ p := by have := block_lt HE.out.ok.blk; omega
        have hnv : ∀ g, v.ownBlock = some g → g ≠ wr.heap.size := fun g hg => by have := (owns_lt HE.out.ok.own g hg).1; omega
        have HNv : Hid _ := hnv
        clear hrow hbx HE hnv
        generalize (stH wide cx n ++ (P.take k).flatMap (rnL wide)) = LL at *
        go_wp2_with fail
        refine (lay_any w.heap.size p l wide _ _ _ HEa.out.ok k1 (by omega) HEa.out.hB).mono ?_
        rintro e w5 ⟨rfl, v5, hp5⟩
        have H5 : Hid _ := HEa.out.step hp5
        have hbx5 : w5.heap[wr.heap.size]? = some (.cells #[.int .u64 (l : Int), .int .u64 (f : Int)] 87 (0, 0)) := (hp5.kept.block _ (block_lt HBx.out) (fun e => e.elim hne (fun e => HNv.out _ e rfl))).trans HBx.out
        have g1' : w5.cell? ⟨wr.heap.size, 1, none⟩ = some (.int .u64 (f : Int)) := by rw [blk_at hbx5]; rfl
        have hl5 := nL_le l wide
        clear hp5 hbx5 HBx HEa g0 g1
        go_wp2_with fail
        refine (lay_any w.heap.size p f wide _ _ _ H5.out.ok k2 (by rw [List.length_append]; omega) H5.out.hB).mono ?_
        rintro e w6 ⟨rfl, v6, hp6⟩
        have H6 : Hid _ := H5.out.step hp6
        rw [HT.out] at H6
        clear hp6 H5 g1' hl5
        go_wp2
        go_roundw
        case rel => exact ⟨k + 1, v6, by omega, by go_num, H6⟩
        case measure => simp [intOf]; omega
      · have HT : Hid (stH wide cx n ++ (P.take k).flatMap (rnL wide) = stL wide cx P) := by
          show _ = _
          rw [List.take_of_length_le (by rw [HN.out]; omega), stL, HN.out]
        have hLn : (stL wide cx P).length ≤ 33554432 := by
          have h1 := stH_le wide cx P.length
          have h2 := rnLs_le wide P
          have := HN.out
          rw [stL, List.length_append]; omega
        rw [HT.out] at HE
        go_wp2_with fail
        refine (wout_any w.heap.size p v _ wr HE.out.ok (by omega)).mono ?_
        rintro e w7 ⟨ao', cap', he, ho, hb⟩
        have H7 : Hid _ := HE.out.out ho hb
        obtain ⟨m9, hm⟩ : ∃ m9, m9 = (stL wide cx P).length := ⟨_, rfl⟩
        obtain rfl : e = .returned (.slice ao' m9 cap') := by rw [hm]; exact he
        have HM : Hid _ := hm
        clear ho hb hm he HE
        go_wp2
        go_ret2
        exact ⟨_, _, by rw [← HM.out]; rfl, H7.out⟩
end Go.Proofs.YtefgdhoapmikhaaDoor
