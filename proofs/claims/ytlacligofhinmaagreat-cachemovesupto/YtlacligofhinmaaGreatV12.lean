import Derived.Test.YtlacligofhinmaaGreatV11
namespace Go.Proofs.YtlacligofhinmaaGreat.K
open Go.RowKit Go.Maps Go.Proofs.YtlacligofhinmaaGreat Go.MuLone
attribute [local go_sem] Oper.semAt_some
set_option linter.unusedVariables false
set_option linter.unusedSimpArgs false
set_option maxRecDepth 100000

theorem is_store {P : Program} {ops : Array Oper} {rest : List Oper} {op : Oper} {a : Act} {w : World} {Q : Exit → Act → World → Prop} (ty : TypeId) (x y : Operand) (ho : op.op = .store ty x y) (h : wpList P ops Q (op :: rest) a w) : wpList P ops Q (op :: rest) a w := h
theorem is_load {P : Program} {ops : Array Oper} {rest : List Oper} {op : Oper} {a : Act} {w : World} {Q : Exit → Act → World → Prop} (ty : TypeId) (x : Operand) (ho : op.op = .load ty x) (h : wpList P ops Q (op :: rest) a w) : wpList P ops Q (op :: rest) a w := h
/-- the writes of a queue that are picked, laid in their order -/
def layTo (k : Nat → Bool) (q : List Pu) (f : Nat → Bl) : Nat → (Nat → Bl)
  | 0 => f
  | n + 1 => match q[n]? with
    | some p => if k n then upd (layTo k q f n) p.1 p.2 else layTo k q f n
    | none => layTo k q f n
def settled (k : Nat → Bool) (S : Dk) : Dk := { S with safe := layTo k S.q S.safe S.q.length, q := [] }
theorem zeroPu (w : World) : (zeroValue TPu).run Tryz.prog w = .ok (.agg Zp) w := by
  obtain ⟨i0, hi, hz0, hz1, hz2⟩ := info_parts infoPu
  simp [zeroValue, typeInfo, hi, hz0]
theorem sizePu : (Tryz.prog.info? TPu).map (·.size) = some 513 := by
  obtain ⟨i0, hi, hz0, hz1, hz2⟩ := info_parts infoPu
  rw [hi]; simp [hz1]
theorem Pc_one (s : Int) (l : Bl) : (Pc s l).all (·.oneCell') = true := by
  rw [Array.all_eq_true_iff_forall_mem]
  intro v hv
  simp only [Pc, Lc, Array.mem_append, List.mem_toArray, List.mem_map] at hv
  rcases hv with hv | ⟨x, _, rfl⟩
  · simp at hv; subst hv; rfl
  · rfl
theorem setCells_put {w : World} {b : Nat} {old : Array Value} {T : TypeId} {s : Int} {l : Bl} (hl : OkB l) (h : w.heap[b]? = some (.cells old T (0, 0))) (ho : old.size = 513) : w.setCells b 0 (Pc s l).toList = w.setRow b (Pc s l) := by
  have hi : (Tryz.prog.info? TPu).map (·.size) = some (Pc s l).size := by rw [Pc_size hl]; exact sizePu
  have h1 := run_storeVar_mid (P := Tryz.prog) w b 0 TPu (Pc s l) (there_row h (by rw [Pc_size hl, ho]; decide)) hi (Pc_one s l)
  have h2 := run_storeVar_row (P := Tryz.prog) w b T TPu old (Pc s l) h hi (by rw [Pc_size hl, ho]) (Pc_one s l)
  rw [h1] at h2
  simpa using h2
/-- the queue is emptied -/
theorem RK.emptied {w : World} {lk : Int} {b ms ml : Nat} {qv fv : Value} {S : Dk} (h : RK w lk b ms ml qv fv S) :
    DAct w (((w.alloc (.map #[] 0)).setCell ⟨b, 4, none⟩ (.slice none 0 0)).setCell ⟨b, 5, none⟩ (.map (some w.heap.size))) lk b ms ml ms w.heap.size qv fv (.slice none 0 0) fv { S with q := [] } := by
  have hb0 : Below w.heap.size w (w.alloc (.map #[] 0)) := (Below.refl _ w).alloc (Nat.le_refl _) _
  have h0 := h.later hb0
  obtain ⟨a1, a2, a3, a4, a5, a6, a7, a8, a9⟩ := h.apart
  have hlt := h.lt
  have hbl := hlt b (by simp [fp])
  have m1 := World.ownsMap_made w Tryz.prog TIn (plainElem Tryz.prog TIn (H := Unit))
  have hne : ∀ i, i ≠ b → (((w.alloc (.map #[] 0)).setCell ⟨b, 4, none⟩ (.slice none 0 0)).setCell ⟨b, 5, none⟩ (.map (some w.heap.size))).heap[i]? = (w.alloc (.map #[] 0)).heap[i]? := fun i hi => (Below.heap_setCell _ _ _ _ hi).trans (Below.heap_setCell _ _ _ _ hi)
  obtain ⟨D, h1, h2⟩ := h0.sm
  refine ⟨⟨?_, h.n0, h.n1, ⟨D, ownsMap_block h1 (hne ms (Ne.symm a1)), h2⟩, ⟨_, ownsMap_tight (ownsMap_block m1 (hne w.heap.size (by omega))), last_empty S.n⟩, World.ownsRow_nil _ _ _ _, ownsRow_block h0.fr (fun g hg => hne g (fun e => a4 (by rw [hg, e]))), ?_, by simp⟩, ?_, ?_⟩
  · have e4 := blk_set h0.blk 4 (.slice none 0 0)
    have e5 := blk_set e4 5 (.map (some w.heap.size))
    exact e5
  · have := hlt ms (by simp [fp]); omega
  · exact ((Kp.of_below hb0 _).set (.inl (by simp [fp])) _ _).set (.inl (by simp [fp])) _ _
  · intro i hi
    simp only [fp, Value.ownBlock, List.mem_cons, List.mem_append, Option.mem_toList] at hi ⊢
    rcases hi with rfl | rfl | rfl | hi | hi
    · simp
    · simp
    · right; exact Nat.le_refl _
    · cases hi
    · simp [hi]

set_option maxHeartbeats 1000000 in
theorem settle_any {w : World} {lk : Int} {b ms ml : Nat} {qv fv : Value} {S : Dk} (h : RK w lk b ms ml qv fv S) (k : Nat → Bool) (hql : S.q.length ≤ 1048576)
    (HK : Hid (∀ (W : World) (i : Nat), Kp w W (fp b ms ml qv fv) → i < S.q.length → Calls Tryz.prog 143 #[.int .i64 i] W fun r W' => r = .returned (.bool (k i)) ∧ Below W.heap.size W W')) :
    Calls Tryz.prog 79 #[.pointer (some ⟨b, 0, none⟩), .func (.func 143) #[] #[]] w fun r w' => r = .returned (.tuple #[]) ∧ ∃ ml', DAct w w' lk b ms ml ms ml' qv fv (.slice none 0 0) fv (settled k S) := by
  have hz := zeroPu
  obtain ⟨ao, qc, rfl⟩ : ∃ ao qc, qv = .slice ao S.q.length qc := by
    rcases h.qr.2 with ⟨rfl, h0⟩ | ⟨g, cap, cur, rfl, _⟩
    · exact ⟨_, _, by rw [h0]⟩
    · exact ⟨_, _, rfl⟩
  obtain ⟨m, hm⟩ : ∃ m, m = S.q.length := ⟨_, rfl⟩
  have c4 : w.cell? ⟨b, 4, none⟩ = some (.slice ao m qc) := by rw [hm]; exact h.c 4
  have HM : Hid (m = S.q.length) := hm
  have HA0 : Hid (DAct w w lk b ms ml ms ml (.slice ao S.q.length qc) fv (.slice ao S.q.length qc) fv S) := DAct.refl h
  have hml : m ≤ 1048576 := by omega
  have hmk := fun (w : World) => run_makeMap (P := Tryz.prog) TMl w
  clear h hm hql
  go_enter Tryz.func79, Tryz.ntmps79
  go_wp2
  go_loopw [11] (fun i wr => ∃ (n : Nat), n ≤ m ∧ i = .int .i64 n ∧ Hid (DAct w wr lk b ms ml ms ml (.slice ao S.q.length qc) fv (.slice ao S.q.length qc) fv { S with safe := layTo k S.q S.safe n })) (fun i _ => m - (intOf i).toNat)
  case atStart => exact ⟨0, Nat.zero_le _, rfl, HA0⟩
  case round =>
    obtain ⟨n, hn, rfl, HA⟩ := hrel
    by_cases hlt : n < m
    · obtain ⟨p, hp⟩ : ∃ p, S.q[n]? = some p := ⟨_, List.getElem?_eq_getElem (by have := HM.out; omega)⟩
      obtain ⟨s, l⟩ := p
      have hrk := HA.out.rk
      obtain ⟨hsn, hok⟩ := hrk.qok (s, l) (List.mem_of_getElem? hp)
      obtain ⟨g, cap', hgq, hcs, hrg⟩ := queue_at hrk.qr (fun p hp => (hrk.qok p hp).2) (i := n) hp
      have hao : ao = some ⟨g, 0, none⟩ := by simp at hgq; exact hgq.1
      subst hao
      obtain ⟨A, hA⟩ : ∃ A, A = Pc s l := ⟨_, rfl⟩
      obtain ⟨C, hC⟩ : ∃ C, C = Lc l := ⟨_, rfl⟩
      have HR : Hid (wr.rangeAt g (n * 513) A.toList) := fun j v hv => by
        rw [hA, Pc_list] at hv
        cases j with
        | zero => simp [pcell] at hv; subst hv; exact hcs
        | succ j => simp only [pcell, List.getElem?_cons_succ] at hv; have := hrg j v hv; rw [show n * 513 + (j + 1) = n * 513 + 1 + j by omega]; exact this
      have HZ2 : Hid ((Tryz.prog.info? TPu).map (·.size) = some A.toList.length) := by show _ = _; rw [hA, Array.length_toList, Pc_size hok]; exact sizePu
      have HZ3 : Hid ((Tryz.prog.info? TPu).map (·.size) = some A.size) := by show _ = _; rw [hA, Pc_size hok]; exact sizePu
      have hg0 := heap_alloc_new wr (.cells Zp TPu)
      have HT : Hid ((wr.alloc (.cells Zp TPu)).there wr.heap.size 0 A.size) := there_row hg0 (by rw [hA, Pc_size hok, Zp_size]; decide)
      have HE : Hid ((wr.alloc (.cells Zp TPu)).setCells wr.heap.size 0 A.toList = wr.alloc (.cells A TPu)) := by show _ = _; rw [hA]; exact (setCells_put hok hg0 Zp_size).trans (World.setRow_alloc_new wr Zp (Pc s l) TPu)
      have hb1 : Below wr.heap.size wr (wr.alloc (.cells A TPu)) := (Below.refl _ wr).alloc (Nat.le_refl _) _
      have HA1 : Hid (DAct w (wr.alloc (.cells A TPu)) lk b ms ml ms ml (.slice (some ⟨g, 0, none⟩) S.q.length qc) fv (.slice (some ⟨g, 0, none⟩) S.q.length qc) fv { S with safe := layTo k S.q S.safe n }) := HA.out.later hb1
      have hkc := HK.out (wr.alloc (.cells A TPu)) n HA1.out.kp (by have := HM.out; omega)
      have HG1 : Hid ((wr.alloc (.cells A TPu)).heap[wr.heap.size]? = some (.cells A TPu)) := heap_alloc_new wr _
      have HSN : Hid (s < S.n) := hsn
      have HOK : Hid (OkB l) := hok
      have HP : Hid (S.q[n]? = some (s, l)) := hp
      have hnl : (n : Int) < (m : Int) := by omega
      have HZ4 : Hid ((Tryz.prog.info? TBl).map (·.size) = some C.toList.length) := by show _ = _; rw [hC, Array.length_toList, Lc_size hok]; exact sizeBl
      have HC2 : Hid (∀ W2, Below (wr.alloc (.cells A TPu)).heap.size (wr.alloc (.cells A TPu)) W2 → W2.cell? ⟨wr.heap.size, 0, none⟩ = some (.int .i64 s) ∧ W2.rangeAt wr.heap.size 1 C.toList) := fun W2 h2 => by
        rw [hC]
        have hb2 : W2.heap[wr.heap.size]? = some (.cells (Pc s l) TPu) := by rw [← hA]; exact (h2.block _ (by rw [World.size_alloc]; omega)).trans HG1.out
        refine ⟨(cell_of hb2).trans (by unfold Pc; rw [Array.getElem?_append_left (by simp)]; rfl), fun j v hv => ?_⟩
        rw [cell_of hb2]
        unfold Pc
        rw [Array.getElem?_append_right (by simp)]
        simpa using hv
      have HPO : Hid (A.all (·.oneCell') = true) := by show _ = _; rw [hA]; exact Pc_one s l
      have HCE : Hid (C = Lc l) := hC
      clear hg0 hrk hok hsn hcs hrg hgq hp hb1 hA hC
      by_cases hkn : k n = true
      · rw [hkn] at hkc
        have HN : Hid (DAct w wr lk b ms ml ms ml (.slice (some ⟨g, 0, none⟩) S.q.length qc) fv (.slice (some ⟨g, 0, none⟩) S.q.length qc) fv { S with safe := layTo k S.q S.safe n }) := HA
        have HL : Hid (layTo k S.q S.safe (n + 1) = upd (layTo k S.q S.safe n) s l) := by
          show _ = _
          conv => lhs; unfold layTo
          rw [HP.out]; simp [hkn]
        go_wp2_with (first | (refine is_load TPu _ rfl ?_; refine wpList_load_mid rfl TPu _ rfl g (n * 513) rfl A.toList _ HR.out Tryz.underlying138 rfl HZ2.out ?_) | (refine is_store TPu _ _ rfl ?_; refine wpList_store_mid rfl TPu _ _ rfl wr.heap.size 0 A rfl rfl HT.out HZ3.out HPO.out ?_; rw [HE.out]) | (go_at_call 143; refine hkc.mono ?_; rintro r W2 ⟨rfl, hb2⟩; have k0 := (HC2.out W2 hb2).1; have HR2 : Hid (W2.rangeAt wr.heap.size 1 C.toList) := (HC2.out W2 hb2).2; have hly := lay_any (HA1.out.later hb2).rk HSN.out HOK.out; rw [← HCE.out] at hly; have HA2 : Hid (DAct w W2 lk b ms ml ms ml (.slice (some ⟨g, 0, none⟩) S.q.length qc) fv (.slice (some ⟨g, 0, none⟩) S.q.length qc) fv { S with safe := layTo k S.q S.safe n }) := HA1.out.later hb2; clear hb2) | (refine is_load TBl _ rfl ?_; refine wpList_load_mid rfl TBl _ rfl wr.heap.size 1 rfl C.toList _ HR2.out Tryz.underlying136 rfl HZ4.out ?_) | (go_at_call 115; refine hly.mono ?_; rintro r W3 ⟨rfl, h3⟩; have HA3 : Hid (DAct w W3 lk b ms ml ms ml (.slice (some ⟨g, 0, none⟩) S.q.length qc) fv (.slice (some ⟨g, 0, none⟩) S.q.length qc) fv { S with safe := layTo k S.q S.safe (n + 1) }) := (by rw [HL.out]; exact HA2.out.trans h3); clear h3))
        go_roundw
        case rel => exact ⟨n + 1, by omega, by go_num, HA3⟩
        case measure => simp [intOf]; omega
      · have hkf : k n = false := by simpa using hkn
        rw [hkf] at hkc
        have HL : Hid (layTo k S.q S.safe (n + 1) = layTo k S.q S.safe n) := by
          show _ = _
          conv => lhs; unfold layTo
          rw [HP.out]; simp [hkf]
        go_wp2_with (first | (refine is_load TPu _ rfl ?_; refine wpList_load_mid rfl TPu _ rfl g (n * 513) rfl A.toList _ HR.out Tryz.underlying138 rfl HZ2.out ?_) | (refine is_store TPu _ _ rfl ?_; refine wpList_store_mid rfl TPu _ _ rfl wr.heap.size 0 A rfl rfl HT.out HZ3.out HPO.out ?_; rw [HE.out]) | (go_at_call 143; refine hkc.mono ?_; rintro r W2 ⟨rfl, hb2⟩; have HA3 : Hid (DAct w W2 lk b ms ml ms ml (.slice (some ⟨g, 0, none⟩) S.q.length qc) fv (.slice (some ⟨g, 0, none⟩) S.q.length qc) fv { S with safe := layTo k S.q S.safe (n + 1) }) := (by rw [HL.out]; exact HA1.out.later hb2); clear hb2))
        go_roundw
        case rel => exact ⟨n + 1, by omega, by go_num, HA3⟩
        case measure => simp [intOf]; omega
    · have e : n = m := by omega
      subst e
      have h0 := HA.out.rk.later ((Below.refl _ wr).alloc (Nat.le_refl _) (.map #[] 0))
      have k4 : (wr.alloc (.map #[] 0)).cell? ⟨b, 4, none⟩ = some (.slice ao S.q.length qc) := h0.c 4
      have z4 := h0.fz 4
      have e4 := blk_set h0.blk 4 (.slice none 0 0)
      have k5 : ((wr.alloc (.map #[] 0)).setCell ⟨b, 4, none⟩ (.slice none 0 0)).cell? ⟨b, 5, none⟩ = some (.map (some ml)) := (cell_of e4).trans rfl
      have z5 : ((wr.alloc (.map #[] 0)).setCell ⟨b, 4, none⟩ (.slice none 0 0)).frozen? ⟨b, 5, none⟩ = false := frozen_of e4
      have HF : Hid (DAct w (((wr.alloc (.map #[] 0)).setCell ⟨b, 4, none⟩ (.slice none 0 0)).setCell ⟨b, 5, none⟩ (.map (some wr.heap.size))) lk b ms ml ms wr.heap.size (.slice ao S.q.length qc) fv (.slice none 0 0) fv (settled k S)) := by
        have h1 := HA.out.trans HA.out.rk.emptied
        rw [HM.out] at h1
        exact h1
      clear h0 e4 HA HA0
      go_wp2
      go_end0
      exact ⟨rfl, _, HF.out⟩
end Go.Proofs.YtlacligofhinmaaGreat.K

namespace Go.Proofs.YtlacligofhinmaaGreat.K
open Go.RowKit Go.Maps Go.Proofs.YtlacligofhinmaaGreat Go.MuLone
attribute [local go_sem] Oper.semAt_some
set_option linter.unusedVariables false
set_option linter.unusedSimpArgs false
set_option maxRecDepth 100000

theorem yes_any (w : World) (i : Nat) : Calls Tryz.prog 143 #[.int .i64 i] w fun r w' => r = .returned (.bool true) ∧ Below w.heap.size w w' := by
  go_enter Tryz.func143, Tryz.ntmps143
  go_wp2
  go_ret
  exact ⟨rfl, Below.refl _ _⟩
def barred (S : Dk) : Dk := settled (fun _ => true) { S with st := { S.st with bars := inc S.st.bars } }
set_option maxHeartbeats 4000000 in
theorem barrier_none {w : World} {b ms ml : Nat} {qv fv : Value} {S : Dk} (h : RK w 0 b ms ml qv fv S) (hf : S.fs = []) (hql : S.q.length ≤ 1048576) :
    Calls Tryz.prog 110 #[.pointer (some ⟨b, 0, none⟩)] w fun r w' => r = .returned (.int .i64 0) ∧ ∃ ml', DAct w w' 0 b ms ml ms ml' qv fv (.slice none 0 0) fv (barred S) := by
  have hus := usable_any h
  have c0 : w.cell? ⟨b, 0, none⟩ = some (.int .i32 0) := h.c 0
  have z0 := h.fz 0
  have a1 := (DAct.refl h).put 0 (.int .i32 1) 1 S.st rfl
  obtain ⟨w1, hw1⟩ : ∃ w1, w1 = w.setCell ⟨b, 0, none⟩ (.int .i32 1) := ⟨_, rfl⟩
  rw [← hw1] at a1
  have hfa := fail_none a1.rk hf 3 (-1)
  have HA1 : Hid (DAct w w1 1 b ms ml ms ml qv fv qv fv S) := a1
  have HQ : Hid (S.q.length ≤ 1048576) := hql
  clear h a1 hf hql
  go_enter_defers Tryz.func110, Tryz.ntmps110
  go_wp2_with (first | (go_at_call 60; refine hus.mono ?_; rintro e w9 ⟨rfl, hw9⟩; rw [hw9]; clear hw9 hus) | (go_at_call 61; refine (lock_free Tryz.muLib ⟨b, 0, none⟩ _ c0 z0).mono ?_; rintro e w9 ⟨rfl, hw9⟩; rw [hw9, ← hw1]; clear hw9 hw1 c0 z0) | (go_at_call 97; refine hfa.mono ?_; rintro e w2 ⟨rfl, hb2⟩; have a3 : DAct w (w2.alloc (.cells #[.int .i64 0, .int .i64 0, .int .i64 0, .int .i64 0, .bool false] TFa)) 1 b ms ml ms ml qv fv qv fv S := (HA1.out.later hb2).later ((Below.refl _ w2).alloc (Nat.le_refl _) _); have c9 : (w2.alloc (.cells #[.int .i64 0, .int .i64 0, .int .i64 0, .int .i64 0, .bool false] TFa)).cell? ⟨b, 9, none⟩ = some (.int .u64 S.st.bars) := a3.rk.c 9; have z9 := a3.rk.fz 9; have a4 := a3.put 9 (.int .u64 (inc S.st.bars)) 1 { S.st with bars := inc S.st.bars } rfl; have HA4 : Hid (DAct w ((w2.alloc (.cells #[.int .i64 0, .int .i64 0, .int .i64 0, .int .i64 0, .bool false] TFa)).setCell ⟨b, 9, none⟩ (.int .u64 (inc S.st.bars))) 1 b ms ml ms ml qv fv qv fv { S with st := { S.st with bars := inc S.st.bars } }) := a4; clear hb2 hfa a3 a4) | (go_at_call 79; refine (settle_any HA4.out.rk (fun _ => true) HQ.out (fun W i _ _ => yes_any W i)).mono ?_; rintro e w5 ⟨rfl, ml', h5⟩; have HA5 : Hid (DAct w w5 1 b ms ml ms ml' qv fv (.slice none 0 0) fv (barred S)) := HA4.out.trans h5; clear h5))
  refine leaves_cons (f := 62) (args := #[.pointer (some ⟨b, 0, none⟩)]) (by simp) (by simp [go_sem]) ?_
  refine (unlock_deferred Tryz.muLib ⟨b, 0, none⟩ .returning _ (HA5.out.rk.c 0) (HA5.out.rk.fz 0)).mono ?_
  rintro e u' w'' ⟨rfl, rfl, rfl⟩
  exact ⟨_, results_tmp rfl _ _ _, rfl, ml', HA5.out.put 0 (.int .i32 0) 0 (barred S).st rfl⟩
end Go.Proofs.YtlacligofhinmaaGreat.K
