import Derived.Test.YtijimcjmpeakpaaGreatG15
namespace Go.Proofs.YtijimcjmpeakpaaGreat.K
open Go.RowKit Go.Maps Go.Proofs.YtijimcjmpeakpaaGreat Go.MuLone
attribute [local go_sem] Oper.semAt_some
set_option linter.unusedVariables false
set_option linter.unusedSimpArgs false
set_option maxRecDepth 100000

set_option maxHeartbeats 1000000 in
theorem settle_keep {w : World} {lk : Int} {b ms ml : Nat} {qv fv : Value} {S : Dk} {kb : Nat} (h : RK w lk b ms ml qv fv S) (k : Nat → Bool) (hql : S.q.length ≤ 1048576)
    (HK : Hid (∀ (W : World) (i : Nat), Kp w W (fp b ms ml qv fv) → i < S.q.length → Calls Tryz.prog 147 #[.int .i64 i, .pointer (some ⟨kb, 0, none⟩)] W fun r W' => r = .returned (.bool (k i)) ∧ Below W.heap.size W W')) :
    Calls Tryz.prog 112 #[.pointer (some ⟨b, 0, none⟩), .func (.func 147) #[] #[.pointer (some ⟨kb, 0, none⟩)]] w fun r w' => r = .returned (.tuple #[]) ∧ ∃ ml', DAct w w' lk b ms ml ms ml' qv fv (.slice none 0 0) fv (settled k S) := by
  have hz := zeroPu
  obtain ⟨ao, qc, rfl⟩ : ∃ ao qc, qv = .slice ao S.q.length qc := by
    rcases h.qr.2 with ⟨rfl, h0⟩ | ⟨g, cap, cur, rfl, _⟩
    · exact ⟨_, _, by rw [h0]⟩
    · exact ⟨_, _, rfl⟩
  obtain ⟨m, hm⟩ : ∃ m, m = S.q.length := ⟨_, rfl⟩
  have c4 : w.cell? ⟨b, 4, none⟩ = some (.slice ao m qc) := by rw [hm]; exact h.c 4
  have HM : Hid (m = S.q.length) := hm
  have HA0 : Hid (DAct w w lk b ms ml ms ml (.slice ao S.q.length qc) fv (.slice ao S.q.length qc) fv S) := DAct.refl h
  have hml : m ≤ 1048576 := by omega
  have hmk := fun (w : World) => run_makeMap (P := Tryz.prog) TMl w
  clear h hm hql
  go_enter Tryz.func112, Tryz.ntmps112
  go_wp2
  go_loopw [11] (fun i wr => ∃ (n : Nat), n ≤ m ∧ i = .int .i64 n ∧ Hid (DAct w wr lk b ms ml ms ml (.slice ao S.q.length qc) fv (.slice ao S.q.length qc) fv { S with safe := layTo k S.q S.safe n })) (fun i _ => m - (intOf i).toNat)
  case atStart => exact ⟨0, Nat.zero_le _, rfl, HA0⟩
  case round =>
    obtain ⟨n, hn, rfl, HA⟩ := hrel
    by_cases hlt : n < m
    · obtain ⟨p, hp⟩ : ∃ p, S.q[n]? = some p := ⟨_, List.getElem?_eq_getElem (by have := HM.out; omega)⟩
      obtain ⟨s, l⟩ := p
      have hrk := HA.out.rk
      obtain ⟨hsn, hok⟩ := hrk.qok (s, l) (List.mem_of_getElem? hp)
      obtain ⟨g, cap', hgq, hcs, hrg⟩ := queue_at hrk.qr (fun p hp => (hrk.qok p hp).2) (i := n) hp
      have hao : ao = some ⟨g, 0, none⟩ := by simp at hgq; exact hgq.1
      subst hao
      obtain ⟨A, hA⟩ : ∃ A, A = Pc s l := ⟨_, rfl⟩
      obtain ⟨C, hC⟩ : ∃ C, C = Lc l := ⟨_, rfl⟩
      have HR : Hid (wr.rangeAt g (n * 513) A.toList) := fun j v hv => by
        rw [hA, Pc_list] at hv
        cases j with
        | zero => simp [pcell] at hv; subst hv; exact hcs
        | succ j => simp only [pcell, List.getElem?_cons_succ] at hv; have := hrg j v hv; rw [show n * 513 + (j + 1) = n * 513 + 1 + j by omega]; exact this
      have HZ2 : Hid ((Tryz.prog.info? TPu).map (·.size) = some A.toList.length) := by show _ = _; rw [hA, Array.length_toList, Pc_size hok]; exact sizePu
      have HZ3 : Hid ((Tryz.prog.info? TPu).map (·.size) = some A.size) := by show _ = _; rw [hA, Pc_size hok]; exact sizePu
      have hg0 := heap_alloc_new wr (.cells Zp TPu)
      have HT : Hid ((wr.alloc (.cells Zp TPu)).there wr.heap.size 0 A.size) := there_row hg0 (by rw [hA, Pc_size hok, Zp_size]; decide)
      have HE : Hid ((wr.alloc (.cells Zp TPu)).setCells wr.heap.size 0 A.toList = wr.alloc (.cells A TPu)) := by show _ = _; rw [hA]; exact (setCells_put hok hg0 Zp_size).trans (World.setRow_alloc_new wr Zp (Pc s l) TPu)
      have hb1 : Below wr.heap.size wr (wr.alloc (.cells A TPu)) := (Below.refl _ wr).alloc (Nat.le_refl _) _
      have HA1 : Hid (DAct w (wr.alloc (.cells A TPu)) lk b ms ml ms ml (.slice (some ⟨g, 0, none⟩) S.q.length qc) fv (.slice (some ⟨g, 0, none⟩) S.q.length qc) fv { S with safe := layTo k S.q S.safe n }) := HA.out.later hb1
      have hkc := HK.out (wr.alloc (.cells A TPu)) n HA1.out.kp (by have := HM.out; omega)
      have HG1 : Hid ((wr.alloc (.cells A TPu)).heap[wr.heap.size]? = some (.cells A TPu)) := heap_alloc_new wr _
      have HSN : Hid (s < S.n) := hsn
      have HOK : Hid (OkB l) := hok
      have HP : Hid (S.q[n]? = some (s, l)) := hp
      have hnl : (n : Int) < (m : Int) := by omega
      have HZ4 : Hid ((Tryz.prog.info? TBl).map (·.size) = some C.toList.length) := by show _ = _; rw [hC, Array.length_toList, Lc_size hok]; exact sizeBl
      have HC2 : Hid (∀ W2, Below (wr.alloc (.cells A TPu)).heap.size (wr.alloc (.cells A TPu)) W2 → W2.cell? ⟨wr.heap.size, 0, none⟩ = some (.int .i64 s) ∧ W2.rangeAt wr.heap.size 1 C.toList) := fun W2 h2 => by
        rw [hC]
        have hb2 : W2.heap[wr.heap.size]? = some (.cells (Pc s l) TPu) := by rw [← hA]; exact (h2.block _ (by rw [World.size_alloc]; omega)).trans HG1.out
        refine ⟨(cell_of hb2).trans (by unfold Pc; rw [Array.getElem?_append_left (by simp)]; rfl), fun j v hv => ?_⟩
        rw [cell_of hb2]
        unfold Pc
        rw [Array.getElem?_append_right (by simp)]
        simpa using hv
      have HPO : Hid (A.all (·.oneCell') = true) := by show _ = _; rw [hA]; exact Pc_one s l
      have HCE : Hid (C = Lc l) := hC
      clear hg0 hrk hok hsn hcs hrg hgq hp hb1 hA hC
      by_cases hkn : k n = true
      · rw [hkn] at hkc
        have HN : Hid (DAct w wr lk b ms ml ms ml (.slice (some ⟨g, 0, none⟩) S.q.length qc) fv (.slice (some ⟨g, 0, none⟩) S.q.length qc) fv { S with safe := layTo k S.q S.safe n }) := HA
        have HL : Hid (layTo k S.q S.safe (n + 1) = upd (layTo k S.q S.safe n) s l) := by
          show _ = _
          conv => lhs; unfold layTo
          rw [HP.out]; simp [hkn]
        go_wp2_with (first | (refine is_load TPu _ rfl ?_; refine wpList_load_mid rfl TPu _ rfl g (n * 513) rfl A.toList _ HR.out Tryz.underlying134 rfl HZ2.out ?_) | (refine is_store TPu _ _ rfl ?_; refine wpList_store_mid rfl TPu _ _ rfl wr.heap.size 0 A rfl rfl HT.out HZ3.out HPO.out ?_; rw [HE.out]) | (go_at_call 147; refine hkc.mono ?_; rintro r W2 ⟨rfl, hb2⟩; have k0 := (HC2.out W2 hb2).1; have HR2 : Hid (W2.rangeAt wr.heap.size 1 C.toList) := (HC2.out W2 hb2).2; have hly := lay_any (HA1.out.later hb2).rk HSN.out HOK.out; rw [← HCE.out] at hly; have HA2 : Hid (DAct w W2 lk b ms ml ms ml (.slice (some ⟨g, 0, none⟩) S.q.length qc) fv (.slice (some ⟨g, 0, none⟩) S.q.length qc) fv { S with safe := layTo k S.q S.safe n }) := HA1.out.later hb2; clear hb2) | (refine is_load TBl _ rfl ?_; refine wpList_load_mid rfl TBl _ rfl wr.heap.size 1 rfl C.toList _ HR2.out Tryz.underlying132 rfl HZ4.out ?_) | (go_at_call 161; refine hly.mono ?_; rintro r W3 ⟨rfl, h3⟩; have HA3 : Hid (DAct w W3 lk b ms ml ms ml (.slice (some ⟨g, 0, none⟩) S.q.length qc) fv (.slice (some ⟨g, 0, none⟩) S.q.length qc) fv { S with safe := layTo k S.q S.safe (n + 1) }) := (by rw [HL.out]; exact HA2.out.trans h3); clear h3))
        go_roundw
        case rel => exact ⟨n + 1, by omega, by go_num, HA3⟩
        case measure => simp [intOf]; omega
      · have hkf : k n = false := by simpa using hkn
        rw [hkf] at hkc
        have HL : Hid (layTo k S.q S.safe (n + 1) = layTo k S.q S.safe n) := by
          show _ = _
          conv => lhs; unfold layTo
          rw [HP.out]; simp [hkf]
        go_wp2_with (first | (refine is_load TPu _ rfl ?_; refine wpList_load_mid rfl TPu _ rfl g (n * 513) rfl A.toList _ HR.out Tryz.underlying134 rfl HZ2.out ?_) | (refine is_store TPu _ _ rfl ?_; refine wpList_store_mid rfl TPu _ _ rfl wr.heap.size 0 A rfl rfl HT.out HZ3.out HPO.out ?_; rw [HE.out]) | (go_at_call 147; refine hkc.mono ?_; rintro r W2 ⟨rfl, hb2⟩; have HA3 : Hid (DAct w W2 lk b ms ml ms ml (.slice (some ⟨g, 0, none⟩) S.q.length qc) fv (.slice (some ⟨g, 0, none⟩) S.q.length qc) fv { S with safe := layTo k S.q S.safe (n + 1) }) := (by rw [HL.out]; exact HA1.out.later hb2); clear hb2))
        go_roundw
        case rel => exact ⟨n + 1, by omega, by go_num, HA3⟩
        case measure => simp [intOf]; omega
    · have e : n = m := by omega
      subst e
      have h0 := HA.out.rk.later ((Below.refl _ wr).alloc (Nat.le_refl _) (.map #[] 0))
      have k4 : (wr.alloc (.map #[] 0)).cell? ⟨b, 4, none⟩ = some (.slice ao S.q.length qc) := h0.c 4
      have z4 := h0.fz 4
      have e4 := blk_set h0.blk 4 (.slice none 0 0)
      have k5 : ((wr.alloc (.map #[] 0)).setCell ⟨b, 4, none⟩ (.slice none 0 0)).cell? ⟨b, 5, none⟩ = some (.map (some ml)) := (cell_of e4).trans rfl
      have z5 : ((wr.alloc (.map #[] 0)).setCell ⟨b, 4, none⟩ (.slice none 0 0)).frozen? ⟨b, 5, none⟩ = false := frozen_of e4
      have HF : Hid (DAct w (((wr.alloc (.map #[] 0)).setCell ⟨b, 4, none⟩ (.slice none 0 0)).setCell ⟨b, 5, none⟩ (.map (some wr.heap.size))) lk b ms ml ms wr.heap.size (.slice ao S.q.length qc) fv (.slice none 0 0) fv (settled k S)) := by
        have h1 := HA.out.trans HA.out.rk.emptied
        rw [HM.out] at h1
        exact h1
      clear h0 e4 HA HA0
      go_wp2
      go_end0
      exact ⟨rfl, _, HF.out⟩
/-- a list of bools that was handed in -/
structure BoRow (w : World) (ao : Option Addr) (cap : Nat) (l : List Bool) : Prop where
  len : l.length ≤ 1048576
  nil : ao = none → l = [] ∧ cap = 0
  at_ : l ≠ [] → ∃ b off, ao = some ⟨b, off, none⟩ ∧ ∀ k (x : Bool), l[k]? = some x → w.cell? ⟨b, off + k, none⟩ = some (.bool x)
theorem BoRow.same {w w' : World} {ao : Option Addr} {cap : Nat} {l : List Bool} (h : BoRow w ao cap l) (hs : ∀ ad, ao = some ad → w'.heap[ad.block]? = w.heap[ad.block]?) : BoRow w' ao cap l := by
  refine ⟨h.len, h.nil, fun hn => ?_⟩
  obtain ⟨b, off, e, hc⟩ := h.at_ hn
  refine ⟨b, off, e, fun k x hx => ?_⟩
  have := hs _ e
  exact (World.cell?_of_block (a := ⟨b, off + k, none⟩) this).trans (hc k x hx)
theorem BoRow.kept {w w' : World} {ao : Option Addr} {cap : Nat} {l : List Bool} {F : List Nat} (h : BoRow w ao cap l) (hk : Kp w w' F) (hap : ∀ ad, ao = some ad → l ≠ [] → ad.block ∉ F) : BoRow w' ao cap l := by
  refine ⟨h.len, h.nil, fun hn => ?_⟩
  obtain ⟨b, off, e, hc⟩ := h.at_ hn
  refine ⟨b, off, e, fun k x hx => ?_⟩
  have h1 := hc k x hx
  exact (World.cell?_of_block (a := ⟨b, off + k, none⟩) (hk.block b (cell_lt h1) (hap _ e hn))).trans h1
set_option maxHeartbeats 1000000 in
theorem keep_any {W : World} {kb : Nat} {ao : Option Addr} {cap n : Nat} {l : List Bool} (hb : W.cell? ⟨kb, 0, none⟩ = some (.slice ao n cap)) (h : BoRow W ao cap l) (hn : l.length = n) (i : Nat) (hi : i ≤ 1048576) :
    Calls Tryz.prog 147 #[.int .i64 i, .pointer (some ⟨kb, 0, none⟩)] W fun r W' => r = .returned (.bool (l.getD i false)) ∧ Below W.heap.size W W' := by
  by_cases hlt : i < n
  · obtain ⟨b, off, e, hc⟩ := h.at_ (by rintro rfl; simp at hn; omega)
    subst e
    obtain ⟨x, hx⟩ : ∃ x, l[i]? = some x := ⟨_, List.getElem?_eq_getElem (by omega)⟩
    have hcx := hc i x hx
    have hv : l.getD i false = x := by rw [List.getD_eq_getElem?_getD, hx]; rfl
    rw [hv]
    have hl2 : n ≤ 1048576 := by have := h.len; omega
    clear hc h hv hx hn
    go_enter Tryz.func147, Tryz.ntmps147
    go_wp2
    go_ret
    exact ⟨rfl, Below.refl _ _⟩
  · have hv : l.getD i false = false := by rw [List.getD_eq_getElem?_getD, List.getElem?_eq_none (by omega)]; rfl
    rw [hv]
    have hl2 : n ≤ 1048576 := by have := h.len; omega
    clear h hv hn
    go_enter Tryz.func147, Tryz.ntmps147
    go_wp2
    go_ret
    exact ⟨rfl, Below.refl _ _⟩
theorem DAct.nofaults {w W : World} {lk : Int} {b ms ml ms' ml' : Nat} {qv fv qv' fv' : Value} {S : Dk} (h : DAct w W lk b ms ml ms' ml' qv fv qv' fv' S) : DAct w (W.setCell ⟨b, 6, none⟩ (.slice none 0 0)) lk b ms ml ms' ml' qv fv qv' (.slice none 0 0) { S with fs := [] } := by
  obtain ⟨a1, a2, a3, a4, a5, a6, a7, a8, a9⟩ := h.rk.apart
  have hs : ∀ i, i ≠ b → (W.setCell ⟨b, 6, none⟩ (.slice none 0 0)).heap[i]? = W.heap[i]? := fun i hi => Below.heap_setCell _ _ _ _ hi
  obtain ⟨D, h1, h2⟩ := h.rk.sm
  obtain ⟨D', h4, h5⟩ := h.rk.lm
  refine ⟨⟨blk_set h.rk.blk 6 _, h.rk.n0, h.rk.n1, ⟨D, ownsMap_block h1 (hs ms' (Ne.symm a1)), h2⟩, ⟨D', ownsMap_block h4 (hs ml' (Ne.symm a2)), h5⟩, ownsRow_block h.rk.qr (fun x hx => hs x (fun e => a3 (by rw [← e]; exact hx))), World.ownsRow_nil _ _ _ _, h.rk.ne, h.rk.qok⟩, h.kp.set (.inl (by simp [fp])) 6 _, fun i hi => h.sub i ?_⟩
  simp only [fp, Value.ownBlock, List.mem_cons, List.mem_append, Option.mem_toList] at hi ⊢
  rcases hi with rfl | rfl | rfl | hi | hi
  · simp
  · simp
  · simp
  · simp [hi]
  · cases hi
def crashed (l : List Bool) (S : Dk) : Dk := { settled (fun i => l.getD i false) S with fs := [], st := { S.st with crashes := inc S.st.crashes } }
set_option maxHeartbeats 4000000 in
theorem crash_any {w : World} {b ms ml : Nat} {qv fv : Value} {S : Dk} (h : RK w 0 b ms ml qv fv S) (hql : S.q.length ≤ 1048576) {ao : Option Addr} {cap n : Nat} {l : List Bool} (hr : BoRow w ao cap l) (hn : l.length = n) (hap : ∀ ad, ao = some ad → l ≠ [] → ad.block ∉ fp b ms ml qv fv) :
    Calls Tryz.prog 96 #[.pointer (some ⟨b, 0, none⟩), .slice ao n cap] w fun r w' => r = .returned (.tuple #[]) ∧ ∃ ml', DAct w w' 0 b ms ml ms ml' qv fv (.slice none 0 0) (.slice none 0 0) (crashed l S) := by
  obtain ⟨W0, hW0⟩ : ∃ W0, W0 = w.alloc (.cells #[.slice ao n cap] 25) := ⟨_, rfl⟩
  have hB0 : Below w.heap.size w W0 := by rw [hW0]; exact (Below.refl _ w).alloc (Nat.le_refl _) _
  have h0 := h.later hB0
  have hbx : W0.heap[w.heap.size]? = some (.cells #[.slice ao n cap] 25) := by rw [hW0]; exact heap_alloc_new w _
  have hus := usable_any h0
  have c0 : W0.cell? ⟨b, 0, none⟩ = some (.int .i32 0) := h0.c 0
  have z0 := h0.fz 0
  have a1 := ((DAct.refl h0).put 0 (.int .i32 1) 1 S.st rfl).from_later hB0
  obtain ⟨w1, hw1⟩ : ∃ w1, w1 = W0.setCell ⟨b, 0, none⟩ (.int .i32 1) := ⟨_, rfl⟩
  rw [← hw1] at a1
  have hlt := h.lt
  have hst := settle_keep a1.rk (fun i => l.getD i false) hql (kb := w.heap.size) (fun W i hk hi => by
    have hbl := hlt b (by simp [fp])
    have hs1 : w.heap.size < w1.heap.size := by rw [hw1]; simp [hW0]
    have hx1 : w1.heap[w.heap.size]? = some (.cells #[.slice ao n cap] 25) := by rw [hw1]; exact (Below.heap_setCell _ _ _ _ (by show w.heap.size ≠ b; omega)).trans hbx
    have hx : W.heap[w.heap.size]? = some (.cells #[.slice ao n cap] 25) := (hk.block _ hs1 (fun hm => by have := hlt _ hm; omega)).trans hx1
    have hi' : i < S.q.length := hi
    exact keep_any ((cell_of hx).trans rfl) (hr.kept (a1.kp.trans hk (fun i hi => .inl hi)) hap) hn i (by omega))
  have HA1 : Hid (DAct w w1 1 b ms ml ms ml qv fv qv fv S) := a1
  clear h h0 a1 hlt hap hr hbx hB0
  subst hW0
  go_enter_defers Tryz.func96, Tryz.ntmps96
  go_wp2_with (first | (go_at_call 60; refine hus.mono ?_; rintro e w9 ⟨rfl, hw9⟩; rw [hw9]; clear hw9 hus) | (go_at_call 61; refine (lock_free Tryz.muLib ⟨b, 0, none⟩ _ c0 z0).mono ?_; rintro e w9 ⟨rfl, hw9⟩; rw [hw9, ← hw1]; clear hw9 hw1 c0 z0) | (go_at_call 112; refine hst.mono ?_; rintro e w5 ⟨rfl, ml', h5⟩; have a5 := HA1.out.trans h5; have k6 : w5.cell? ⟨b, 6, none⟩ = some fv := a5.rk.c 6; have f6 := a5.rk.fz 6; have a6 := a5.nofaults; have k11 : (w5.setCell ⟨b, 6, none⟩ (.slice none 0 0)).cell? ⟨b, 11, none⟩ = some (.int .u64 S.st.crashes) := a6.rk.c 11; have f11 := a6.rk.fz 11; have HA7 : Hid (DAct w ((w5.setCell ⟨b, 6, none⟩ (.slice none 0 0)).setCell ⟨b, 11, none⟩ (.int .u64 (inc S.st.crashes))) 1 b ms ml ms ml' qv fv (.slice none 0 0) (.slice none 0 0) (crashed l S)) := a6.put 11 (.int .u64 (inc S.st.crashes)) 1 { S.st with crashes := inc S.st.crashes } rfl; clear h5 a5 a6 hst))
  have a7 := HA7.out
  refine leaves_cons (f := 62) (args := #[.pointer (some ⟨b, 0, none⟩)]) (by simp) (by simp [go_sem]) ?_
  refine (unlock_deferred Tryz.muLib ⟨b, 0, none⟩ .returning _ (a7.rk.c 0) (a7.rk.fz 0)).mono ?_
  rintro e u' w'' ⟨rfl, rfl, rfl⟩
  exact ⟨_, results_none rfl _ _ _, rfl, ml', a7.put 0 (.int .i32 0) 0 (crashed l S).st rfl⟩
end Go.Proofs.YtijimcjmpeakpaaGreat.K
