import Derived.Test.YtbamjfnjenmdaaaGreatzLNc
import Derived.Test.YtbamjfnjenmdaaaGreatG9
namespace Go.Proofs.YtbamjfnjenmdaaaGreat.K
open Go.RowKit Go.Maps Go.Proofs.YtbamjfnjenmdaaaGreat Go.MuLone
attribute [local go_sem] Oper.semAt_some
set_option linter.unusedVariables false
set_option linter.unusedSimpArgs false
set_option maxRecDepth 100000

abbrev TPt : TypeId := 70
abbrev TPts : TypeId := 67
/-- a write that is told: its sector, its bytes' slice, its bytes -/
abbrev Pv := Nat × Value × Bl
def qcell (p : Pv) : List Value := [.int .i64 p.1, p.2.1]
def qcells (l : List Pv) : List Value := l.flatMap qcell
def bare (p : Pv) : Pu := (p.1, p.2.2)
theorem qcells_append (a b : List Pv) : qcells (a ++ b) = qcells a ++ qcells b := by simp [qcells]
theorem qcells_len (l : List Pv) : (qcells l).length = l.length * 2 := by
  induction l with
  | nil => rfl
  | cons f l ih => simp only [qcells, List.flatMap_cons, List.length_append] at ih ⊢; rw [ih]; simp [qcell]; omega
/-- writes that are told, in memory of their own -/
structure Told (w : World) (B : Nat) (v : Value) (ps : List Pv) : Prop where
  row : w.ownsRow B TPt 2 v ps.length (qcells ps)
  dat : ∀ p ∈ ps, w.ownsRow B 5 1 p.2.1 512 (p.2.2.map bv)
  two : ps.Pairwise fun p q => p.2.1.ownBlock ≠ q.2.1.ownBlock
theorem infoPt : (Tryz.prog.info? TPt).map (fun i => (i.zero, i.size, i.bytes)) = some (some (.agg #[.int .i64 0, .slice none 0 0]), 2, 32) := by kernel_rfl

theorem run_onep (w : World) (s : Int) (v : Value) (hv : v.cells = #[v]) : (Instr.buildSlice TPts 1 #[(0, .agg #[.int .i64 s, v])]).run Tryz.prog w = .ok (.slice (some ⟨w.heap.size, 0, none⟩) 1 1) (w.alloc (.cells #[.int .i64 s, v] TPt)) := by
  obtain ⟨i0, hi, hz0, hz1, hz2⟩ := info_parts infoPt
  refine run_buildSlice w TPts TPt 1 _ _ i0 _ Tryz.underlying67 hi hz0 (by rw [hz1]; decide) (by rw [hz1]; decide) ?_
  rw [hz1]
  generalize hA : (#[.int .i64 s, v] : Array Value) = A
  have hAs : A.size = 2 := by rw [← hA]; rfl
  obtain ⟨r, e, hs, g⟩ := fill_one (place := fun i => some (i * 2, 2)) (cells := (Array.range (1 * 2)).map ((Value.agg #[.int .i64 0, .slice none 0 0]).cells[· % (Value.agg #[.int .i64 0, .slice none 0 0]).cells.size]!)) (i := 0) (off := 0) (v := .agg A) (rest := []) (by simp [Value.cells, hAs]) (by simp [Value.cells, hAs])
  show Instr.fill _ _ [(0, Value.agg A)] = _
  rw [e]
  show some r = _
  congr 1
  apply Array.ext_getElem?
  intro j
  rw [g j]
  simp only [Value.cells, hAs]
  by_cases hk : 0 ≤ j ∧ j < 0 + 2
  · rw [if_pos hk]; rfl
  · rw [if_neg hk, Array.getElem?_eq_none (by simp; omega), Array.getElem?_eq_none (by rw [hAs]; omega)]
/-- a row of one's own grows: the disk stays -/
theorem DAct.grown {w W W' : World} {lk : Int} {b ms ml ms' ml' : Nat} {qv fv qv' fv' : Value} {S : Dk} {row : Option Nat} (h : DAct w W lk b ms ml ms' ml' qv fv qv' fv' S) (hg : W.grownBy W' row) (hr : ∀ k, row = some k → w.heap.size ≤ k) (hn : ∀ i ∈ fp b ms' ml' qv' fv', row ≠ some i) : DAct w W' lk b ms ml ms' ml' qv fv qv' fv' S :=
  ⟨h.rk.same fun i hi => hg.block i (h.rk.lt i hi) (fun e => hn i hi e.symm), h.kp.grown hg (fun k e => .inr (hr k e)), h.sub⟩
theorem Told.step {w0 : Nat} {W W' : World} {t : Value} {ps : List Pv} (h : Told W w0 t ps) {s : Nat} {v t' : Value} {l : Bl} (hg : W.grownBy W' t.ownBlock) (hrow : W'.ownsRow w0 TPt 2 t' (ps.length + 1) (qcells ps ++ qcell (s, v, l))) (hv : W.ownsRow w0 5 1 v 512 (l.map bv)) (hnew : ∀ p ∈ ps, ∀ g, p.2.1.ownBlock = some g → v.ownBlock ≠ some g) : Told W' w0 t' (ps ++ [(s, v, l)]) := by
  have hk : ∀ (x : Value) (n : Nat) (xs : List Value), W.ownsRow w0 5 1 x n xs → W'.ownsRow w0 5 1 x n xs := fun x n xs hx => ownsRow_block hx fun g e => by
    obtain ⟨hl, cs, hc⟩ := row_lt hx g e
    refine hg.block g hl (fun e2 => ?_)
    obtain ⟨_, cs', hc'⟩ := row_lt h.row g e2.symm
    rw [hc] at hc'
    simp at hc'
    exact absurd hc'.2 (by decide)
  refine ⟨?_, fun p hp => ?_, ?_⟩
  · rw [qcells_append, List.length_append]
    simpa [qcells] using hrow
  · rcases List.mem_append.1 hp with hp | hp
    · exact hk _ _ _ (h.dat p hp)
    · simp at hp; subst hp; exact hk _ _ _ hv
  · rw [List.pairwise_append]
    refine ⟨h.two, by simp, fun p hp q hq => ?_⟩
    simp at hq
    subst hq
    intro e
    rcases (h.dat p hp).2 with ⟨_, h0⟩ | ⟨g, c, cur, e2, _⟩
    · cases h0
    · have e3 : p.2.1.ownBlock = some g := by rw [e2]; rfl
      exact hnew p hp g e3 (by rw [← e3]; exact e.symm)
theorem Told.later {W W' : World} {B : Nat} {v : Value} {ps : List Pv} (h : Told W B v ps) (hb : Below W.heap.size W W') : Told W' B v ps :=
  ⟨ownsRow_block h.row (fun g e => hb.block g (row_lt h.row g e).1), fun p hp => ownsRow_block (h.dat p hp) (fun g e => hb.block g (row_lt (h.dat p hp) g e).1), h.two⟩

set_option maxHeartbeats 8000000 in
theorem queue_any {w : World} {b ms ml : Nat} {qv fv : Value} {S : Dk} (h : RK w 0 b ms ml qv fv S) (hql : S.q.length ≤ 1048576) :
    Calls Tryz.prog 22 #[.pointer (some ⟨b, 0, none⟩)] w fun r w' => ∃ v ps, r = .returned v ∧ Told w' w.heap.size v ps ∧ ps.map bare = S.q ∧ DAct w w' 0 b ms ml ms ml qv fv qv fv S := by
  have hz := zeroPu
  obtain ⟨ao, qc, rfl⟩ : ∃ ao qc, qv = .slice ao S.q.length qc := by
    rcases h.qr.2 with ⟨rfl, h0⟩ | ⟨g, cap, cur, rfl, _⟩
    · exact ⟨_, _, by rw [h0]⟩
    · exact ⟨_, _, rfl⟩
  have hus := usable_any h
  have c0 : w.cell? ⟨b, 0, none⟩ = some (.int .i32 0) := h.c 0
  have z0 := h.fz 0
  have a1 := (DAct.refl h).put 0 (.int .i32 1) 1 S.st rfl
  obtain ⟨w1, hw1⟩ : ∃ w1, w1 = w.setCell ⟨b, 0, none⟩ (.int .i32 1) := ⟨_, rfl⟩
  rw [← hw1] at a1
  obtain ⟨m, hm⟩ : ∃ m, m = S.q.length := ⟨_, rfl⟩
  have c4 : w1.cell? ⟨b, 4, none⟩ = some (.slice ao m qc) := by rw [hm]; exact a1.rk.c 4
  have HA1 : Hid (DAct w w1 1 b ms ml ms ml (.slice ao S.q.length qc) fv (.slice ao S.q.length qc) fv S) := a1
  have HM : Hid (m = S.q.length) := hm
  have hml : m ≤ 1048576 := by omega
  have HLt : Hid (∀ i ∈ fp b ms ml (.slice ao S.q.length qc) fv, i < w.heap.size) := h.lt
  clear h a1 hm hql
  go_enter_defers Tryz.func22, Tryz.ntmps22
  go_wp2_with (first | (go_at_call 44; refine hus.mono ?_; rintro e w9 ⟨rfl, hw9⟩; rw [hw9]; clear hw9 hus) | (go_at_call 45; refine (lock_free Tryz.muLib ⟨b, 0, none⟩ _ c0 z0).mono ?_; rintro e w9 ⟨rfl, hw9⟩; rw [hw9, ← hw1]; clear hw9 hw1 c0 z0))
  go_loopw [3, 21] (fun t i wr => ∃ (n : Nat) (ps : List Pv), n ≤ m ∧ i = .int .i64 n ∧ Hid (ps.map bare = S.q.take n) ∧ Hid (Told wr w.heap.size t ps) ∧ Hid (DAct w wr 1 b ms ml ms ml (.slice ao S.q.length qc) fv (.slice ao S.q.length qc) fv S)) (fun _ i _ => m - (intOf i).toNat)
  case atStart => exact ⟨0, [], Nat.zero_le _, rfl, by rfl, ⟨World.ownsRow_nil _ _ _ _, by simp, by simp⟩, HA1⟩
  case round =>
    obtain ⟨n, ps, hn, rfl, HP, HT, HA⟩ := hrel
    by_cases hlt : n < m
    · obtain ⟨p, hp⟩ : ∃ p, S.q[n]? = some p := ⟨_, List.getElem?_eq_getElem (by have := HM.out; omega)⟩
      obtain ⟨s, l⟩ := p
      have hrk := HA.out.rk
      obtain ⟨hsn, hok⟩ := hrk.qok (s, l) (List.mem_of_getElem? hp)
      obtain ⟨g, cap', hgq, hcs, hrg⟩ := queue_at hrk.qr (fun p hp => (hrk.qok p hp).2) (i := n) hp
      have hao : ao = some ⟨g, 0, none⟩ := by simp at hgq; exact hgq.1
      subst hao
      obtain ⟨A, hA⟩ : ∃ A, A = Pc s l := ⟨_, rfl⟩
      have HR : Hid (wr.rangeAt g (n * 513) A.toList) := fun j v hv => by
        rw [hA, Pc_list] at hv
        cases j with
        | zero => simp [pcell] at hv; subst hv; exact hcs
        | succ j => simp only [pcell, List.getElem?_cons_succ] at hv; have := hrg j v hv; rw [show n * 513 + (j + 1) = n * 513 + 1 + j by omega]; exact this
      have HZ2 : Hid ((Tryz.prog.info? TPu).map (·.size) = some A.toList.length) := by show _ = _; rw [hA, Array.length_toList, Pc_size hok]; exact sizePu
      have HZ3 : Hid ((Tryz.prog.info? TPu).map (·.size) = some A.size) := by show _ = _; rw [hA, Pc_size hok]; exact sizePu
      have hg0 := heap_alloc_new wr (.cells Zp TPu)
      have HT0 : Hid ((wr.alloc (.cells Zp TPu)).there wr.heap.size 0 A.size) := there_row hg0 (by rw [hA, Pc_size hok, Zp_size]; decide)
      have HE : Hid ((wr.alloc (.cells Zp TPu)).setCells wr.heap.size 0 A.toList = wr.alloc (.cells A TPu)) := by show _ = _; rw [hA]; exact (setCells_put hok hg0 Zp_size).trans (World.setRow_alloc_new wr Zp (Pc s l) TPu)
      have hb1 : Below wr.heap.size wr (wr.alloc (.cells A TPu)) := (Below.refl _ wr).alloc (Nat.le_refl _) _
      have HG1 : Hid ((wr.alloc (.cells A TPu)).heap[wr.heap.size]? = some (.cells A TPu)) := heap_alloc_new wr _
      have HPO : Hid (A.all (·.oneCell') = true) := by show _ = _; rw [hA]; exact Pc_one s l
      have hnl : (n : Int) < (m : Int) := by omega
      have k0 : (wr.alloc (.cells A TPu)).cell? ⟨wr.heap.size, 0, none⟩ = some (.int .i64 s) := (cell_of HG1.out).trans (by rw [hA]; unfold Pc; rw [Array.getElem?_append_left (by simp)]; rfl)
      have hpl : ps.length = n := by
        have := congrArg List.length HP.out
        rw [List.length_map, List.length_take] at this
        have := HM.out
        omega
      obtain ⟨to, tc, rfl⟩ : ∃ to tc, u3 = .slice to n tc := by
        rcases HT.out.row.2 with ⟨rfl, h0⟩ | ⟨g, cap, cur, rfl, _⟩
        · exact ⟨_, _, by rw [← hpl, h0]⟩
        · exact ⟨_, _, by rw [hpl]⟩
      have HPl : Hid (ps.length = n) := hpl
      have HPn : Hid (S.q[n]? = some (s, l)) := hp
      have HAE : Hid (A = Pc s l) := hA
      have HBR : Hid (BRow (wr.alloc (.cells A TPu)).drew (some ⟨wr.heap.size, 1, none⟩) 512 l) := by
        refine ⟨hok.lt, by rw [hok.len]; decide, (fun e => by cases e), fun _ => ⟨wr.heap.size, 1, rfl, fun k hk => ?_⟩⟩
        show (wr.alloc (.cells A TPu)).cell? _ = _
        rw [cell_of HG1.out, hA]
        unfold Pc
        rw [Array.getElem?_append_right (by simp)]
        simp [Lc, hk]
      have HCl := clone_some ⟨wr.heap.size, 1, none⟩ 512 512 l (wr.alloc (.cells A TPu)).drew HBR.out hok.len (by decide)
      have HCL : Hid (Calls Tryz.prog 31 #[.slice (some ⟨wr.heap.size, 1, none⟩) 512 512] (wr.alloc (.cells A TPu)).drew fun e w' => ∃ v, e = .returned v ∧ w'.ownsRow (wr.alloc (.cells A TPu)).drew.heap.size 5 1 v 512 (l.map bv) ∧ Below (wr.alloc (.cells A TPu)).drew.heap.size (wr.alloc (.cells A TPu)).drew w') := HCl
      have hBW : Below wr.heap.size wr (wr.alloc (.cells A TPu)).drew := ⟨hb1.os, hb1.tape, hb1.output, hb1.size, hb1.block⟩
      have HTd : Hid (Told (wr.alloc (.cells A TPu)).drew w.heap.size (.slice to n tc) ps) := HT.out.later hBW
      have HAd : Hid (DAct w (wr.alloc (.cells A TPu)).drew 1 b ms ml ms ml (.slice (some ⟨g, 0, none⟩) S.q.length qc) fv (.slice (some ⟨g, 0, none⟩) S.q.length qc) fv S) := HA.out.later hBW
      obtain ⟨i0, hi0, hz0, hz1, hz2⟩ := info_parts infoPt
      have HSz : Hid (w.heap.size ≤ wr.heap.size) := HA.out.kp.size
      clear hg0 hcs hrg hgq hb1 hA HCl hBW hrk hok hsn hpl hp
      go_wp2_with (first | (refine is_load TPu _ rfl ?_; refine wpList_load_mid rfl TPu _ rfl g (n * 513) rfl A.toList _ HR.out Tryz.underlying122 rfl HZ2.out ?_) | (refine is_store TPu _ _ rfl ?_; refine wpList_store_mid rfl TPu _ _ rfl wr.heap.size 0 A rfl rfl HT0.out HZ3.out HPO.out ?_; rw [HE.out]))
      refine Code.wp_mono (Q := NoPanic _) NoPanic.imp ?_
      go_region_law
        (first
          | (go_simp; go_at_call 31; refine HCL.out.mono ?_; rintro r w5 ⟨v, rfl, ho5, hb5⟩; obtain ⟨gd, cd, cur5, rfl, hgd, hkd, hcd⟩ := own_form ho5 (by decide); have HO5 : Hid (w5.ownsRow (wr.alloc (.cells A TPu)).drew.heap.size 5 1 (.slice (some ⟨gd, 0, none⟩) 512 cd) 512 (l.map bv)) := ho5; have HT5 : Hid (Told w5 w.heap.size (.slice to n tc) ps) := HTd.out.later hb5; have HD5 : Hid (DAct w w5 1 b ms ml ms ml (.slice (some ⟨g, 0, none⟩) S.q.length qc) fv (.slice (some ⟨g, 0, none⟩) S.q.length qc) fv S) := HAd.out.later hb5; have hone := fun W => run_onep W s (.slice (some ⟨gd, 0, none⟩) 512 cd) rfl; have k05 : w5.cell? ⟨wr.heap.size, 0, none⟩ = some (.int .i64 s) := cell_later hb5 k0; have HB5 : Hid (Below (wr.alloc (.cells A TPu)).drew.heap.size (wr.alloc (.cells A TPu)).drew w5) := hb5; have HGd : Hid ((wr.alloc (.cells A TPu)).drew.heap.size ≤ gd) := hgd; clear hgd hb5 ho5 hkd hcd; dsimp only)
          | (refine step_append_lies _ (by rfl) _ _ TPts (by rfl) w.heap.size TPt i0 _ 2 32 Tryz.underlying67 hi0 hz0 hz1 hz2 (by rfl) (by decide) (.slice to n tc) n (qcells ps) (by rfl) ((by have h1 := HT5.out.row; rw [HPl.out] at h1; exact h1 : w5.ownsRow w.heap.size TPt 2 (.slice to n tc) n (qcells ps)).alloc _) ⟨w5.heap.size, 0, none⟩ 1 1 (qcell (s, .slice (some ⟨gd, 0, none⟩) 512 cd, l)) (by rfl) (by rfl) (World.news_of_block (heap_alloc_new w5 _)) (fun u hu => by simp [qcell] at hu; rcases hu with rfl | rfl <;> rfl) (by decide) (by unfold maxLen; omega) (by omega) (by rw [World.size_alloc]; have h1 := HB5.out.size; have h2 := HSz.out; have h3 : wr.heap.size ≤ (wr.alloc (.cells A TPu)).drew.heap.size := (by show _ ≤ (wr.alloc (.cells A TPu)).heap.size; rw [World.size_alloc]; omega); omega) (w5.heap.size + 1) (by rw [World.size_alloc]) ?_; intro g' cap' w6 hown' hgrow hat hlt'; have hal : Below w5.heap.size w5 (w5.alloc (.cells #[.int .i64 s, .slice (some ⟨gd, 0, none⟩) 512 cd] TPt)) := (Below.refl _ w5).alloc (Nat.le_refl _) _; have HT6 : Hid (Told w6 w.heap.size (.slice (some ⟨g', 0, none⟩) (n + 1) cap') (ps ++ [(s, .slice (some ⟨gd, 0, none⟩) 512 cd, l)])) := Told.step (HT5.out.later hal) hgrow (by rw [HPl.out]; exact hown') ((owns_mono HO5.out (by have h2 := HSz.out; have h3 : wr.heap.size ≤ (wr.alloc (.cells A TPu)).drew.heap.size := (by show _ ≤ (wr.alloc (.cells A TPu)).heap.size; rw [World.size_alloc]; omega); omega)).alloc _) (fun p hp x e e2 => by have h1 := (row_lt (HTd.out.dat p hp) x e).1; have h2 := HGd.out; simp [Value.ownBlock] at e2; omega); have HD6 : Hid (DAct w w6 1 b ms ml ms ml (.slice (some ⟨g, 0, none⟩) S.q.length qc) fv (.slice (some ⟨g, 0, none⟩) S.q.length qc) fv S) := (HD5.out.later hal).grown hgrow (fun k e => (HT5.out.row.lt k e).1) (fun i hi e => by have h1 := HLt.out i hi; have h2 := (HT5.out.row.lt i e).1; omega); clear hal hown' hgrow hat hlt' HTd HAd))
      all_goals simp only [NoPanic]
      all_goals go_wp2
      all_goals go_roundw
      all_goals first
        | exact ⟨n + 1, ps ++ [(s, .slice (some ⟨gd, 0, none⟩) 512 cd, l)], by omega, by go_num, (by show _ = _; rw [List.map_append, HP.out, List.take_add_one, HPn.out]; rfl), HT6, HD6⟩
        | (simp [intOf]; omega)
    · have e : n = m := by omega
      subst e
      have hT := HT.out
      have hP : ps.map bare = S.q := by rw [HP.out, List.take_of_length_le (by have := HM.out; omega)]
      have HPE : Hid (ps.map bare = S.q) := hP
      have hbl := HLt.out b (by simp [fp])
      have HBL : Hid (b < w.heap.size) := hbl
      clear hP hbl
      go_wp2
      have a7 := HA.out
      refine leaves_cons (f := 46) (args := #[.pointer (some ⟨b, 0, none⟩)]) (by simp) (by simp [go_sem]) ?_
      refine (unlock_deferred Tryz.muLib ⟨b, 0, none⟩ .returning _ (a7.rk.c 0) (a7.rk.fz 0)).mono ?_
      rintro e u' w'' ⟨rfl, rfl, rfl⟩
      refine ⟨_, results_tmp rfl _ _ _, _, ps, rfl, ?_, HPE.out, a7.put 0 (.int .i32 0) 0 S.st rfl⟩
      have hs : ∀ (T size n : Nat) (v : Value) (xs : List Value), wr.ownsRow w.heap.size T size v n xs → (wr.setCell ⟨b, 0, none⟩ (.int .i32 0)).ownsRow w.heap.size T size v n xs := fun T size n v xs h => ownsRow_block h (fun g e => Below.heap_setCell _ _ _ _ (by have := (h.lt g e).1; have := HBL.out; show g ≠ b; omega))
      exact ⟨hs _ _ _ _ _ hT.row, fun p hp => hs _ _ _ _ _ (hT.dat p hp), hT.two⟩
end Go.Proofs.YtbamjfnjenmdaaaGreat.K
