import Derived.Test.YtlacligofhinmaaGreatV4
namespace Go.Proofs.YtlacligofhinmaaGreat.K
open Go.RowKit Go.Maps Go.Proofs.YtlacligofhinmaaGreat
attribute [local go_sem] Oper.semAt_some
set_option linter.unusedVariables false
set_option linter.unusedSimpArgs false
set_option maxRecDepth 100000

/-- the last write of a sector in a queue -/
def lastQ (s : Nat) : List Pu → Option Bl
  | [] => none
  | p :: r => match lastQ s r with
    | some l => some l
    | none => if p.1 = s then some p.2 else none
theorem lastQ_none {s : Nat} : ∀ {q : List Pu}, lastQ s q = none → ∀ p ∈ q, p.1 ≠ s
  | [], _, p, hp => by simp at hp
  | x :: r, h, p, hp => by
    unfold lastQ at h
    split at h
    · cases h
    · rename_i h1
      split at h
      · cases h
      · rename_i h2
        rcases List.mem_cons.1 hp with rfl | hp
        · exact h2
        · exact lastQ_none h1 p hp
theorem lastQ_some {s : Nat} {l : Bl} : ∀ {q : List Pu}, lastQ s q = some l → ∃ i, q[i]? = some (s, l) ∧ lastAt s q i
  | [], h => by cases h
  | x :: r, h => by
    unfold lastQ at h
    split at h
    · rename_i l' h1
      cases h
      obtain ⟨i, hi, ⟨_, hn⟩⟩ := lastQ_some h1
      refine ⟨i + 1, by simpa using hi, ⟨⟨l, by simpa using hi⟩, fun j p hj hp => ?_⟩⟩
      cases j with
      | zero => omega
      | succ j => exact hn j p (by omega) (by simpa using hp)
    · rename_i h1
      split at h
      · rename_i h2
        cases h
        refine ⟨0, by simp [← h2], ⟨⟨x.2, by simp [← h2]⟩, fun j p hj hp => ?_⟩⟩
        cases j with
        | zero => omega
        | succ j => exact lastQ_none h1 p (List.mem_of_getElem? (by simpa using hp))
      · cases h
theorem lastQ_snoc (s : Nat) (q : List Pu) (p : Pu) : lastQ s (q ++ [p]) = if p.1 = s then some p.2 else lastQ s q := by
  induction q with
  | nil => simp [lastQ]
  | cons x r ih =>
    simp only [List.cons_append]
    unfold lastQ
    rw [ih]
    by_cases h : p.1 = s
    · simp [h]
    · simp only [h, if_false]
/-- what a sector reads -/
def look (S : Dk) (s : Nat) : Bl := (lastQ s S.q).getD (S.safe s)
theorem pcell_len {p : Pu} (h : OkB p.2) : (pcell p).length = 513 := by simp [pcell, h.len]
theorem pcells_cons (p : Pu) (q : List Pu) : pcells (p :: q) = pcell p ++ pcells q := by simp [pcells]
theorem pcells_append (a b : List Pu) : pcells (a ++ b) = pcells a ++ pcells b := by simp [pcells]
theorem pcells_one (l : List Pu) : ∀ u ∈ pcells l, u.oneCell' = true := by
  intro u hu
  obtain ⟨r, _, hr⟩ := List.mem_flatMap.1 hu
  simp only [pcell, List.mem_cons, List.mem_map] at hr
  rcases hr with rfl | ⟨x, _, rfl⟩ <;> rfl
theorem pcells_len : ∀ {q : List Pu}, (∀ p ∈ q, OkB p.2) → (pcells q).length = q.length * 513
  | [], _ => rfl
  | p :: q, h => by
    rw [pcells_cons, List.length_append, pcell_len (h p (by simp)), pcells_len (fun x hx => h x (by simp [hx])), List.length_cons]; omega
theorem pcells_get : ∀ {q : List Pu} {i s : Nat} {l : Bl}, (∀ p ∈ q, OkB p.2) → q[i]? = some (s, l) → (pcells q)[i * 513]? = some (.int .i64 s) ∧ ∀ j, j < 512 → (pcells q)[i * 513 + 1 + j]? = (l.map bv)[j]?
  | [], _, _, _, _, h => by simp at h
  | p :: q, 0, s, l, hok, h => by
    simp at h; subst h
    have hl := (hok (s, l) (by simp)).len
    rw [pcells_cons]
    refine ⟨by simp [pcell], fun j hj => ?_⟩
    rw [List.getElem?_append_left (by rw [pcell_len (hok (s, l) (by simp))]; omega)]
    simp only [pcell, Nat.zero_mul, Nat.zero_add]
    rw [Nat.add_comm, List.getElem?_cons_succ]
  | p :: q, i + 1, s, l, hok, h => by
    have ih := pcells_get (q := q) (i := i) (fun x hx => hok x (by simp [hx])) (by simpa using h)
    have hp := pcell_len (hok p (by simp))
    rw [pcells_cons]
    refine ⟨?_, fun j hj => ?_⟩
    · rw [List.getElem?_append_right (by omega), hp, show (i + 1) * 513 - 513 = i * 513 by omega]; exact ih.1
    · rw [List.getElem?_append_right (by omega), hp, show (i + 1) * 513 + 1 + j - 513 = i * 513 + 1 + j by omega]; exact ih.2 j hj
/-- where a write of the queue lies -/
theorem queue_at {w : World} {B : Nat} {qv : Value} {q : List Pu} (h : w.ownsRow B TPu 513 qv q.length (pcells q)) (hok : ∀ p ∈ q, OkB p.2) {i s : Nat} {l : Bl} (hi : q[i]? = some (s, l)) :
    ∃ g cap, qv = .slice (some ⟨g, 0, none⟩) q.length cap ∧ w.cell? ⟨g, i * 513, none⟩ = some (.int .i64 s) ∧ w.rangeAt g (i * 513 + 1) (l.map bv) := by
  have hlt := (List.getElem?_eq_some_iff.1 hi).1
  rcases h.2 with ⟨_, h0⟩ | ⟨g, cap, cur, rfl, hb, hg, hc, _, hsz, ht⟩
  · omega
  · have hl := (hok (s, l) (List.mem_of_getElem? hi)).len
    obtain ⟨h1, h2⟩ := pcells_get hok hi
    have key : ∀ k, k < q.length * 513 → cur[k]? = (pcells q)[k]? := fun k hk => by
      rw [← ht, List.getElem?_take, if_pos hk]; simp
    refine ⟨g, cap, rfl, (cell_of hg).trans ((key _ (by omega)).trans h1), fun j v hv => ?_⟩
    have hj : j < 512 := by have := (List.getElem?_eq_some_iff.1 hv).1; rw [List.length_map, hl] at this; exact this
    rw [cell_of hg, key _ (by have : i + 1 ≤ q.length := hlt; have := Nat.mul_le_mul_right 513 this; omega), h2 j hj]
    exact hv
theorem wfI (n : Nat) (h : n ≤ 65536) : (Lit.int .i64 (n : Int)).wf = true := by
  have h1 : ((n : Int)) < 9223372036854775808 := by omega
  have h2 : (-9223372036854775808 : Int) ≤ (n : Int) := by omega
  have e1 : IntKind.i64.min = -9223372036854775808 := rfl
  have e2 : IntKind.i64.max = 9223372036854775807 := rfl
  simp [Lit.wf]
  omega

set_option maxHeartbeats 2000000 in
theorem reads_any {w : World} {lk : Int} {b ms ml : Nat} {qv fv : Value} {S : Dk} (h : RK w lk b ms ml qv fv S) {s : Nat} (hs : s < S.n) :
    Calls Tryz.prog 98 #[.pointer (some ⟨b, 0, none⟩), .int .i64 s] w fun r w' => r = .returned (bval (look S s)) ∧ Below w.heap.size w w' := by
  have hz := zeroBl
  have hB0 : Below w.heap.size w (w.alloc (.cells Zc TBl)) := (Below.refl _ w).alloc (Nat.le_refl _) _
  have h0 := h.later hB0
  have hk : keyOf Tryz.prog TIn (.int .i64 s) = some (kl s) := keyOf_int_mk Tryz.underlying3 (wfI s (by have := h.n1; omega))
  have c5 : (w.alloc (.cells Zc TBl)).cell? ⟨b, 5, none⟩ = some (.map (some ml)) := h0.c 5
  have c3 : (w.alloc (.cells Zc TBl)).cell? ⟨b, 3, none⟩ = some (.map (some ms)) := h0.c 3
  have c4 : (w.alloc (.cells Zc TBl)).cell? ⟨b, 4, none⟩ = some qv := h0.c 4
  have HG : Hid ((w.alloc (.cells Zc TBl)).heap[w.heap.size]? = some (.cells Zc TBl)) := heap_alloc_new w _
  have HB : Hid (Below w.heap.size w (w.alloc (.cells Zc TBl))) := hB0
  obtain ⟨Dl, hml, hlo⟩ := h0.lm
  obtain ⟨Ds, hms, hso⟩ := h0.sm
  have fin : ∀ {l : Bl}, OkB l → Hid (∀ W, W = (w.alloc (.cells Zc TBl)).setCells w.heap.size 0 (Lc l).toList → W.heap[w.heap.size]? = some (.cells (Lc l) TBl) ∧ Below w.heap.size w W) := fun {l} hl W hW => by
    rw [setCells_row hl HG.out Zc_size] at hW
    subst hW
    exact ⟨setRow_heap _ _ _ _ _ _ HG.out, HB.out.os, HB.out.tape, HB.out.output, by simp [World.setRow], fun i hi => (setRow_other _ _ _ _ (by omega)).trans (HB.out.block i hi)⟩
  have thr : ∀ {l : Bl}, OkB l → (w.alloc (.cells Zc TBl)).there w.heap.size 0 (Lc l).size := fun hl => there_row HG.out (by rw [Lc_size hl, Zc_size]; decide)
  have siz : ∀ {l : Bl}, OkB l → (Tryz.prog.info? TBl).map (·.size) = some (Lc l).size := fun hl => by rw [Lc_size hl]; exact sizeBl
  obtain ⟨v, ps, hlk, hv⟩ := hml.look_ok keyed Tryz.underlying114 (Tryz.zeroValue3 _) (plainElem_int Tryz.underlying3 (a := 0) (by decide)) hk
  obtain ⟨c, rfl, hc, hwc⟩ := plainElem_int_inv Tryz.underlying3 hv
  simp only [Prod.mk.injEq] at hc
  cases hlq : lastQ s S.q with
  | some l =>
    obtain ⟨i, hi, hla⟩ := lastQ_some hlq
    obtain ⟨ha, hh⟩ := hlo.yes s i hla
    rw [hh] at hlk
    have hci : c = i := by
      have := hc.1.symm.trans ha
      simpa using this
    subst hci
    have hok := (h.qok (s, l) (List.mem_of_getElem? hi)).2
    obtain ⟨g, cap, rfl, hcs, hrg⟩ := queue_at h0.qr (fun p hp => (h.qok p hp).2) hi
    have hlt : (i : Int) < (S.q.length : Int) := by have := (List.getElem?_eq_some_iff.1 hi).1; omega
    have HR : Hid ((w.alloc (.cells Zc TBl)).rangeAt g (i * 513 + 1) (l.map bv)) := hrg
    have HF := fin hok
    have HT : Hid ((w.alloc (.cells Zc TBl)).there w.heap.size 0 (Lc l).size) := thr hok
    have HZ : Hid ((Tryz.prog.info? TBl).map (·.size) = some (Lc l).size) := siz hok
    have HZ2 : Hid ((Tryz.prog.info? TBl).map (·.size) = some (l.map bv).length) := by show _ = _; rw [List.length_map, hok.len]; exact sizeBl
    have HE : Hid (look S s = l) := by show look S s = l; unfold look; rw [hlq]; rfl
    rw [HE.out]
    clear h h0 hk hB0 hml hlo hms hso fin thr siz hv hc hwc hlq hi hla ha hh hok hrg hcs HE
    go_enter Tryz.func98, Tryz.ntmps98
    go_wp2_with (first | (refine wpList_load_mid rfl TBl _ rfl g (i * 513 + 1) rfl (l.map bv) _ HR.out Tryz.underlying136 rfl HZ2.out ?_) | (refine wpList_store_mid rfl TBl _ _ rfl w.heap.size 0 (Lc l) rfl rfl HT.out HZ.out (Lc_one l) ?_))
    obtain ⟨q1, q2⟩ := HF.out _ rfl
    exact bodyPost_ret (results_cell_row rfl _ _ w.heap.size TBl (Lc l) (0, 0) _ rfl q1 Tryz.underlying136 rfl HZ.out) rfl ⟨rfl, q2⟩
  | none =>
    rw [hlo.no s (lastQ_none hlq)] at hlk
    obtain ⟨v2, ps2, hlk2, hv2⟩ := hms.lookup keyed Tryz.underlying113 (hz _) (zd := bD z512) (zp := []) (by rw [Zc_eq]; exact blkE_val z512) hk
    rw [hso.at_ s hs] at hv2
    have e2 := blkE_some hv2
    subst e2
    have hok := hso.ok s hs
    have HE : Hid (look S s = S.safe s) := by show look S s = S.safe s; unfold look; rw [hlq]; rfl
    rw [HE.out]
    obtain ⟨l, hl⟩ : ∃ l, l = S.safe s := ⟨_, rfl⟩
    rw [← hl] at hok hlk2 ⊢
    have hlk3 : (Instr.lookup TMs (.map (some ms)) (.int .i64 s) false).run Tryz.prog (w.alloc (.cells Zc TBl)) = .ok (.agg (Lc l)) (w.alloc (.cells Zc TBl)) := hlk2
    have HF := fin hok
    have HT : Hid ((w.alloc (.cells Zc TBl)).there w.heap.size 0 (Lc l).size) := thr hok
    have HZ : Hid ((Tryz.prog.info? TBl).map (·.size) = some (Lc l).size) := siz hok
    clear h h0 hk hB0 hml hlo hms hso fin thr siz hv hc hwc hlq hv2 hok HE hlk2 hl
    go_enter Tryz.func98, Tryz.ntmps98
    go_wp2_with (refine wpList_store_mid rfl TBl _ _ rfl w.heap.size 0 (Lc l) rfl rfl HT.out HZ.out (Lc_one l) ?_)
    obtain ⟨q1, q2⟩ := HF.out _ rfl
    exact bodyPost_ret (results_cell_row rfl _ _ w.heap.size TBl (Lc l) (0, 0) _ rfl q1 Tryz.underlying136 rfl HZ.out) rfl ⟨rfl, q2⟩
end Go.Proofs.YtlacligofhinmaaGreat.K

namespace Go.Proofs.YtlacligofhinmaaGreat.K
open Go.RowKit Go.Maps Go.Proofs.YtlacligofhinmaaGreat
attribute [local go_sem] Oper.semAt_some
set_option linter.unusedVariables false
set_option linter.unusedSimpArgs false
set_option maxRecDepth 100000

def f0 : Value := .agg #[.int .i64 0, .int .i64 0, .int .i64 0, .int .i64 0, .bool false]
set_option maxHeartbeats 2000000 in
theorem fail_none {w : World} {lk : Int} {b ms ml : Nat} {qv fv : Value} {S : Dk} (h : RK w lk b ms ml qv fv S) (hf : S.fs = []) (kind s : Int) :
    Calls Tryz.prog 97 #[.pointer (some ⟨b, 0, none⟩), .int .i64 kind, .int .i64 s] w fun r w' => r = .returned (.tuple #[.agg #[.int .i64 0, .int .i64 0, .int .i64 0, .int .i64 0, .bool false], .bool false]) ∧ Below w.heap.size w w' := by
  have hB0 : Below w.heap.size w (w.alloc (.cells #[.int .i64 0, .int .i64 0, .int .i64 0, .int .i64 0, .bool false] TFa)) := (Below.refl _ w).alloc (Nat.le_refl _) _
  have HB : Hid (Below w.heap.size w (w.alloc (.cells #[.int .i64 0, .int .i64 0, .int .i64 0, .int .i64 0, .bool false] TFa))) := hB0
  have h0 := h.later hB0
  have c6 : (w.alloc (.cells #[.int .i64 0, .int .i64 0, .int .i64 0, .int .i64 0, .bool false] TFa)).cell? ⟨b, 6, none⟩ = some fv := h0.c 6
  obtain ⟨ao, cap, rfl⟩ : ∃ ao cap, fv = .slice ao 0 cap := by
    have h1 := h.fr
    rw [hf] at h1
    rcases h1.2 with ⟨rfl, _⟩ | ⟨g, cap, cur, rfl, _⟩
    · exact ⟨_, _, rfl⟩
    · exact ⟨_, _, rfl⟩
  clear h h0 hf hB0
  go_enter Tryz.func97, Tryz.ntmps97
  go_wp2
  refine wp_loop_rounds 1 ?_
  rw [rounds_succ]
  go_wp2
  exact bodyPost_ret (v := .tuple #[.agg #[.int .i64 0, .int .i64 0, .int .i64 0, .int .i64 0, .bool false], .bool false]) (by simp [results, Tryz.results97, asAddr, go_sem]) rfl ⟨rfl, HB.out⟩
end Go.Proofs.YtlacligofhinmaaGreat.K
