import Derived.Test.YtefgdhoapmikhaaDoorRtR
import Derived.Test.YtefgdhoapmikhaaDoorRtM
import Derived.Test.YtefgdhoapmikhaaDoorRpDc
import Derived.Laws.BitsAllLaws
namespace Go.Proofs.YtefgdhoapmikhaaDoor
open Go.RowKit
set_option linter.unusedVariables false
set_option linter.unusedSimpArgs false
set_option maxRecDepth 100000
theorem same18 (ao bo : Option Addr) (cap cap' : Nat) (l m : List Nat) (w : World) (h : BRow w ao cap l) (h' : BRow w bo cap' m) (n k : Nat) (hn : l.length = n) (hk : m.length = k) :
    Calls Tryd.prog 18 #[.slice ao n cap, .slice bo k cap'] w fun e w' => e = .returned (.bool (decide (l = m))) ∧ ∃ q, w' = w.drewN q := by
  have HS : Hid (Calls Tryd.prog 40 #[.slice ao n cap, .slice bo k cap'] w fun e w' => e = .returned (.bool (decide (l = m))) ∧ ∃ q, w' = w.drewN q) := by rw [← hn, ← hk]; exact same_any ao bo cap cap' l m w h h'
  clear hn hk h h'
  go_enter Tryd.func18, Tryd.ntmps18
  go_wp2_with fail
  refine Calls.mono HS.out ?_
  rintro e w' ⟨rfl, q, rfl⟩
  clear HS
  go_wp2
  go_ret
  exact ⟨rfl, q, rfl⟩
theorem eqSim (a b : Int) (w : World) : (binOp .eql 44 (.agg #[.int .u32 a, .int .u64 b]) (.agg #[.int .u32 a, .int .u64 b])).run Tryd.prog w = .ok (.bool true) w := by
  have u3 := Tryd.underlying30
  have a3 := Tryd.isAgg30
  have z3 := Tryd.sizeOf30
  have u4 := Tryd.underlying26
  have a4 := Tryd.isAgg26
  have z4 := Tryd.sizeOf26
  have hS : Tryd.prog.underlying 44 = some (.struct (Tryd.prog.fieldsOf 44)) := by kernel_rfl
  have hp : Tryd.prog.stoodInHeld 44 = false := by kernel_rfl
  rw [run_eql_struct, show (10000 : Nat) = 9999 + 1 from rfl, run_equalIn_agg w 9999 44 _ _ hS hp]
  simp only [Program.fieldsOf, Tryd.underlying44]
  go_simp
theorem and4 (fl : Nat) (h : fl < 65536) : ∃ df : Bool, bits .and .u16 (fl : Int) 4 = if df = true then 4 else 0 := by
  have h1 := u16_and_nat fl 4 h (by decide)
  have h2 : fl &&& 4 = 0 ∨ fl &&& 4 = 4 := by
    have b := Nat.and_le_right (n := fl) (m := 4)
    have b0 : (fl &&& 4).testBit 0 = false := by rw [Nat.testBit_and, show (4 : Nat).testBit 0 = false by decide, Bool.and_false]
    have b1 : (fl &&& 4).testBit 1 = false := by rw [Nat.testBit_and, show (4 : Nat).testBit 1 = false by decide, Bool.and_false]
    generalize fl &&& 4 = x at b b0 b1
    rcases (show x = 0 ∨ x = 1 ∨ x = 2 ∨ x = 3 ∨ x = 4 by omega) with rfl | rfl | rfl | rfl | rfl
    · exact .inl rfl
    · exact absurd b0 (by decide)
    · exact absurd b1 (by decide)
    · exact absurd b0 (by decide)
    · exact .inr rfl
  have h3 : (((4 : Nat) : Int)) = 4 := rfl
  rw [h3] at h1
  rcases h2 with e | e
  · exact ⟨false, by rw [h1, e]; rfl⟩
  · exact ⟨true, by rw [h1, e]; rfl⟩
theorem doneS_atT : ∀ (S : List Say) (k : Nat) (x : Say), S[k]? = some x → (doneS S)[k]? = some (if k + 1 = S.length then (1, x.2) else x)
  | [], k, x, h => by simp at h
  | [y], k, x, h => by
    rcases k with _ | k
    · simp at h; subst h; simp [doneS]
    · simp at h
  | y :: z :: t, k, x, h => by
    rcases k with _ | k
    · simp at h; subst h; simp [doneS]
    · simp only [List.getElem?_cons_succ] at h
      have := doneS_atT (z :: t) k x h
      simp only [doneS, List.getElem?_cons_succ, this, List.length_cons]
      congr 1
      by_cases e : k + 1 = t.length + 1
      · rw [if_pos e, if_pos (by omega)]
      · rw [if_neg e, if_neg (by omega)]

/-- a part of what is told: a hole or not, and its bytes -/
abbrev Sg := Bool × List Nat
def sgS (ck eo at_ : Nat) (x : Sg) : Say := (0, if x.1 = true then 2 else 1, ck, eo, if x.1 = true then hoL at_ x.2.length else daL at_ x.2)
def segS (ck eo : Nat) : Nat → List Sg → List Say
  | _, [] => []
  | at_, x :: G => sgS ck eo at_ x :: segS ck eo (at_ + x.2.length) G
structure SgOk (df : Bool) (x : Sg) : Prop where
  pos : 0 < x.2.length
  zer : x.1 = true → x.2 = List.replicate x.2.length 0
  len : x.2.length < 4294967296
  dfh : df = true → x.1 = false
theorem segS_len (ck eo : Nat) : ∀ (G : List Sg) (a : Nat), (segS ck eo a G).length = G.length
  | [], _ => rfl
  | x :: G, a => by simp [segS, segS_len ck eo G]
theorem segS_at (ck eo : Nat) : ∀ (G : List Sg) (a k : Nat) (x : Sg), G[k]? = some x → (segS ck eo a G)[k]? = some (sgS ck eo (a + ((G.take k).flatMap (·.2)).length) x)
  | [], a, k, x, h => by simp at h
  | y :: G, a, k, x, h => by
    rcases k with _ | k
    · simp at h; subst h; simp [segS]
    · simp only [List.getElem?_cons_succ] at h
      have := segS_at ck eo G (a + y.2.length) k x h
      simp only [segS, List.getElem?_cons_succ, this, List.take_succ_cons, List.flatMap_cons, List.length_append]
      congr 2; omega
theorem seg_pie (ck eo off : Nat) (D : Pc → List Nat) (len : Nat) : ∀ (P : List Pc) (s : Nat), pieB off len s P = true → (∀ p ∈ P, (D p).length = p.n) → len < 4294967296 → P.map (pcS ck eo D) = segS ck eo (off + s) (P.map fun p => (p.hole, pcL D p)) ∧ ∀ p ∈ P, SgOk false (p.hole, pcL D p)
  | [], s, _, _, _ => ⟨rfl, by simp⟩
  | p :: P, s, h, hd, hl => by
    have hh := h
    simp only [pieB, Bool.and_eq_true, decide_eq_true_eq, pcB] at h
    obtain ⟨⟨⟨h1, h2⟩, h3⟩, h4, h5, h6⟩ := h
    have hn := hd p (List.mem_cons_self ..)
    have hlen : (pcL D p).length = p.ln := by
      unfold pcL
      split
      · simp
      · rename_i hq; rw [hn, h2, if_neg hq]
    have ih := seg_pie ck eo off D len P (s + p.ln) h6 (fun q hq => hd q (List.mem_cons_of_mem _ hq)) hl
    refine ⟨?_, fun q hq => ?_⟩
    · simp only [List.map_cons, segS, hlen]
      rw [ih.1, Nat.add_assoc]
      have e1 : pcS ck eo D p = sgS ck eo (off + s) (p.hole, pcL D p) := by
        by_cases e : p.hole = true
        · simp [pcS, sgS, e, hlen, h4]
        · simp [pcS, sgS, e, h4, pcL]
      rw [e1]
    · rcases List.mem_cons.1 hq with rfl | hq
      · refine ⟨by simp only [hlen]; exact h1, fun e => ?_, by simp only [hlen]; omega, (fun e => by cases e)⟩
        simp only [hlen]
        simp only at e
        simp [pcL, e]
      · exact ih.2 q hq
/-- what is told of a read of some bytes, part by part -/
theorem zT_segs {df : Bool} {ck eo off len : Nat} {D : Pc → List Nat} {P : List Pc} (hp : pieB off len 0 P = true) (hd : ∀ p ∈ P, (D p).length = p.n) (hlen : len < 4294967296) (h0 : len ≠ 0) : ∃ G : List Sg, zT df ck eo off len D P = segS ck eo off G ∧ (∀ x ∈ G, SgOk df x) ∧ G.flatMap (·.2) = rowL D P ∧ (df = true → G.length = 1) ∧ G.length ≤ P.length + 1 ∧ 0 < G.length := by
  have hr := rowL_len D off len P 0 hp hd
  unfold zT
  rw [if_neg h0]
  by_cases e : df = true
  · rw [if_pos e]
    refine ⟨[(false, rowL D P)], rfl, fun x hx => ?_, by simp, fun _ => rfl, by simp, by simp⟩
    obtain rfl : x = (false, rowL D P) := by simpa using hx
    exact ⟨by show 0 < (rowL D P).length; omega, (fun e => by cases e), by show (rowL D P).length < _; omega, fun _ => rfl⟩
  · rw [if_neg e]
    have h1 := seg_pie ck eo off D len P 0 hp hd hlen
    have hdf : df = false := by simpa using e
    subst hdf
    refine ⟨P.map fun p => (p.hole, pcL D p), h1.1, fun x hx => ?_, ?_, (fun e => by cases e), by simp, ?_⟩
    · obtain ⟨p, hpm, rfl⟩ := List.mem_map.1 hx
      exact h1.2 p hpm
    · rw [rowL, List.flatMap_map]
    · rw [List.length_map]
      rcases P with _ | ⟨p, P⟩
      · simp [pieB] at hp; omega
      · simp
/-- what a chunk says of its part -/
theorem seg_say {ck eo off n k : Nat} {G : List Sg} {K : List Ck} (h : K.map Ck.say = doneS (segS ck eo off G)) (hn : G.length = n) (hK : k < K.length) (hG : k < G.length) : K[k].fl = (if k + 1 = n then 1 else 0) ∧ K[k].ty = (if G[k].1 = true then 2 else 1) ∧ K[k].ck = ck ∧ K[k].off = eo ∧ K[k].d = (if G[k].1 = true then hoL (off + ((G.take k).flatMap (·.2)).length) G[k].2.length else daL (off + ((G.take k).flatMap (·.2)).length) G[k].2) := by
  have h1 := doneS_atT _ k _ (segS_at ck eo G off k _ (List.getElem?_eq_getElem hG))
  rw [← h, List.getElem?_map, List.getElem?_eq_getElem hK, segS_len, hn] at h1
  simp only [Option.map_some, Option.some.injEq] at h1
  by_cases e : k + 1 = n
  · rw [if_pos e] at h1 ⊢
    simp only [Ck.say, sgS, Prod.mk.injEq] at h1
    exact ⟨h1.1, h1.2.1, h1.2.2.1, h1.2.2.2.1, h1.2.2.2.2⟩
  · rw [if_neg e] at h1 ⊢
    simp only [Ck.say, sgS, Prod.mk.injEq] at h1
    exact ⟨h1.1, h1.2.1, h1.2.2.1, h1.2.2.2.1, h1.2.2.2.2⟩
/-- got and told, filled from the front up to s -/
structure Gt (W4 W : World) (L s : Nat) (R : List Nat) : Prop where
  bel : Below W4.heap.size W4 W
  size : W4.heap.size + 1 + 1 ≤ W.heap.size
  g : W.heap[W4.heap.size]? = some (.cells ((R.take s ++ List.replicate (L - s) 0).map bv).toArray 5 (0, 0))
  t : W.heap[W4.heap.size + 1]? = some (.cells ((List.replicate s true ++ List.replicate (L - s) false).map Value.bool).toArray 4 (0, 0))
theorem Gt.new (W4 : World) (L : Nat) (R : List Nat) : Gt W4 ((W4.alloc (.cells ((List.replicate L 0).map bv).toArray 5)).alloc (.cells ((List.replicate L false).map Value.bool).toArray 4)) L 0 R := by
  have h := mkb2 W4 ((List.replicate L 0).map bv).toArray ((List.replicate L false).map Value.bool).toArray 5 4
  exact ⟨h.bel, h.size, by simpa using h.a, by simpa using h.b⟩
theorem Gt.later {W4 W W' : World} {L s : Nat} {R : List Nat} (h : Gt W4 W L s R) (k : Below W.heap.size W W') : Gt W4 W' L s R :=
  ⟨h.bel.trans (k.mono h.bel.size), Nat.le_trans h.size k.size, box_later h.g k, box_later h.t k⟩
theorem Gt.told {W4 W : World} {L s : Nat} {R : List Nat} (h : Gt W4 W L s R) (hs : s < L) : W.cell? ⟨W4.heap.size + 1, s, none⟩ = some (.bool false) ∧ W.frozen? ⟨W4.heap.size + 1, s, none⟩ = false := by
  refine ⟨?_, blk_free h.t s⟩
  rw [blk_at h.t]
  simp [List.getElem?_append_right, List.getElem?_replicate]
  omega
theorem list_put (R : List Nat) (L s x : Nat) (hs : s < L) (hR : R.length = L) (hx : R[s]? = some x) : (R.take s ++ List.replicate (L - s) 0).set s x = R.take (s + 1) ++ List.replicate (L - (s + 1)) 0 := by
  have h1 : (R.take s).length = s := by rw [List.length_take]; omega
  rw [List.set_append_right _ _ (by omega), h1, Nat.sub_self, show L - s = (L - (s + 1)) + 1 by omega, List.replicate_succ, List.set_cons_zero]
  rw [List.take_add_one, hx]
  simp
theorem list_putB (L s : Nat) (hs : s < L) : (List.replicate s true ++ List.replicate (L - s) false).set s true = List.replicate (s + 1) true ++ List.replicate (L - (s + 1)) false := by
  rw [List.set_append_right _ _ (by simp), List.length_replicate, Nat.sub_self, show L - s = (L - (s + 1)) + 1 by omega, List.replicate_succ, List.set_cons_zero, List.replicate_succ', List.append_assoc]
  rfl
theorem arr_set {α β : Type} (f : α → β) (l : List α) (s : Nat) (x : α) : (l.map f).toArray.setIfInBounds s (f x) = ((l.set s x).map f).toArray := by
  apply Array.ext'
  simp [List.map_set]
/-- one more byte is told -/
theorem Gt.step1 {W4 W : World} {L s : Nat} {R : List Nat} (h : Gt W4 W L s R) (hs : s < L) : (W.setCell ⟨W4.heap.size + 1, s, none⟩ (.bool true)).heap[W4.heap.size + 1]? = some (.cells ((List.replicate (s + 1) true ++ List.replicate (L - (s + 1)) false).map Value.bool).toArray 4 (0, 0)) := by
  refine put_boxX h.t s _ ?_
  rw [arr_set, list_putB L s hs]
theorem Gt.step {W4 W W1 W2 : World} {L s x : Nat} {R : List Nat} (h : Gt W4 W L s R) (hs : s < L) (hR : R.length = L) (hx : R[s]? = some x) (e1 : W1 = W.setCell ⟨W4.heap.size + 1, s, none⟩ (.bool true)) (e2 : W2 = W1.setCell ⟨W4.heap.size, s, none⟩ (bv x)) : Gt W4 W2 L (s + 1) R ∧ KeptIn (fun g => g = W4.heap.size ∨ g = W4.heap.size + 1) W W2 := by
  have k1 : KeptIn (fun g => g = W4.heap.size + 1) W W1 := e1 ▸ keptIn_set W _ _ _
  have k2 : KeptIn (fun g => g = W4.heap.size) W1 W2 := e2 ▸ keptIn_set W1 _ _ _
  have k : KeptIn (fun g => g = W4.heap.size ∨ g = W4.heap.size + 1) W W2 := (k1.mono (fun g _ e => Or.inr e)).trans k2 (fun g _ h1 h2 => h1 (Or.inl h2))
  have t1 := h.step1 hs
  rw [← e1] at t1
  have g1 : W1.heap[W4.heap.size]? = some (.cells ((R.take s ++ List.replicate (L - s) 0).map bv).toArray 5 (0, 0)) := by rw [k1.block _ (block_lt h.g) (by omega)]; exact h.g
  refine ⟨⟨h.bel.trans (k.below h.bel.size (fun g hg e => by omega)), Nat.le_trans h.size k.size, ?_, ?_⟩, k⟩
  · rw [e2]
    refine put_boxX g1 s _ ?_
    rw [arr_set, list_put R L s x hs hR hx]
  · rw [k2.block _ (block_lt t1) (by omega)]; exact t1
theorem Gt.all {W4 W : World} {L : Nat} {R : List Nat} (h : Gt W4 W L L R) (hR : R.length = L) (hlt : ∀ x ∈ R, x < 256) (hL : L ≤ 140737488351232) : BRow W (some ⟨W4.heap.size, 0, none⟩) L R := by
  refine ⟨hlt, by omega, (fun e => by cases e), fun hne => ⟨W4.heap.size, 0, rfl, fun k hk => ?_⟩⟩
  rw [Nat.zero_add, blk_at h.g]
  simp [List.take_of_length_le (show R.length ≤ L by omega), hk]
theorem row_some {w W : World} {ao : Option Addr} {cap : Nat} {l : List Nat} (h : Row w W ao cap l) (h0 : 0 < l.length) : ∃ g, ao = some ⟨g, 0, none⟩ := by
  rcases h.own.2 with ⟨_, h1⟩ | ⟨g, c, cur, hv, _⟩
  · omega
  · simp only [Value.slice.injEq] at hv; exact ⟨g, hv.1⟩
theorem zT_len {df : Bool} {ck eo off len : Nat} {D : Pc → List Nat} {P : List Pc} (hp : pieB off len 0 P = true) (hd : ∀ p ∈ P, (D p).length = p.n) (hlen : len < 4294967296) : 0 < (zT df ck eo off len D P).length ∧ (zT df ck eo off len D P).length ≤ P.length + 1 := by
  by_cases h0 : len = 0
  · unfold zT; rw [if_pos h0]; simp
  · obtain ⟨G, h1, _, _, _, h2, h3⟩ := zT_segs (df := df) (ck := ck) (eo := eo) hp hd hlen h0
    rw [h1, segS_len]; exact ⟨h3, h2⟩
theorem zT_small {ex df : Bool} {ck eo off len : Nat} {D : Pc → List Nat} {P : List Pc} (hp : pieB off len 0 P = true) (hd : ∀ p ∈ P, (D p).length = p.n) : (encS ex (zT df ck eo off len D P)).length ≤ len + P.length * 44 + 100 := by
  have hr := rowL_len D off len P 0 hp hd
  unfold zT
  by_cases h0 : len = 0
  · rw [if_pos h0]
    have := enS_len ex (0, 0, ck, eo, [])
    simp only [encS, List.flatMap_cons, List.flatMap_nil, List.append_nil, List.length_nil] at this ⊢
    omega
  · rw [if_neg h0]
    by_cases e : df = true
    · rw [if_pos e]
      have := enS_len ex (0, 1, ck, eo, daL off (rowL D P))
      simp only [encS, List.flatMap_cons, List.flatMap_nil, List.append_nil] at this ⊢
      have h1 : (daL off (rowL D P)).length = 8 + (rowL D P).length := by simp [daL, bigTo_length]
      omega
    · rw [if_neg e]
      have := encP_le ex ck eo off len D P 0 hp hd
      omega
def zArr (n : Nat) : Array Value := ((List.replicate n 0).map bv).toArray
def fArr (n : Nat) : Array Value := ((List.replicate n false).map Value.bool).toArray
theorem run_zerosI (w : World) {n : Nat} (hn : n ≤ 140737488351232) : (Instr.makeSlice 27 (.int .i64 (n : Int)) (.int .i64 (n : Int))).run Tryd.prog w = .ok (.slice (some ⟨w.heap.size, 0, none⟩) n n) (w.alloc (.cells (zArr n) 5)) := by
  obtain ⟨i0, hi, hz0, hz1, hz2⟩ := info_parts Tryd.info5
  have h1 := run_make (P := Tryd.prog) w 27 5 i0 (.int .u8 0) Tryd.underlying27 hi hz0 .i64 .i64 (n : Int) (n : Int) (by omega) (Int.le_refl _) (by rw [hz2]; omega) (by omega)
  rw [Int.toNat_natCast, hz1] at h1
  rw [h1]
  congr 3
  apply Array.ext_getElem?
  intro k
  unfold zArr
  rcases Nat.lt_or_ge k n with hk | hk
  · simp [madeCells, Value.cells, hk, bv, Nat.mod_one]
  · rw [Array.getElem?_eq_none (by simp [madeCells]; omega), Array.getElem?_eq_none (by simp; omega)]
theorem infoB : (Tryd.prog.info? 4).map (fun i => (i.zero, i.size, i.bytes)) = some (some (.bool false), 1, 1) := by kernel_rfl
theorem run_falses (w : World) {n : Nat} (hn : n ≤ 140737488351232) : (Instr.makeSlice 68 (.int .i64 (n : Int)) (.int .i64 (n : Int))).run Tryd.prog w = .ok (.slice (some ⟨w.heap.size, 0, none⟩) n n) (w.alloc (.cells (fArr n) 4)) := by
  obtain ⟨i0, hi, hz0, hz1, hz2⟩ := info_parts infoB
  have h1 := run_make (P := Tryd.prog) w 68 4 i0 (.bool false) Tryd.underlying68 hi hz0 .i64 .i64 (n : Int) (n : Int) (by omega) (Int.le_refl _) (by rw [hz2]; omega) (by omega)
  rw [Int.toNat_natCast, hz1] at h1
  rw [h1]
  congr 3
  apply Array.ext_getElem?
  intro k
  unfold fArr
  rcases Nat.lt_or_ge k n with hk | hk
  · simp [madeCells, Value.cells, hk, Nat.mod_one]
  · rw [Array.getElem?_eq_none (by simp [madeCells]; omega), Array.getElem?_eq_none (by simp; omega)]
theorem sum_five (P : List Pc) : 5 * P.length ≤ (P.map fun o => o.n + 5).sum := by
  induction P with
  | nil => simp
  | cons p P ih => simp only [List.map_cons, List.sum_cons, List.length_cons]; omega
theorem fm_split (G : List Sg) (k : Nat) (hk : k < G.length) : G.flatMap (·.2) = (G.take k).flatMap (·.2) ++ (G[k].2 ++ (G.drop (k + 1)).flatMap (·.2)) := by
  conv => lhs; rw [← List.take_append_drop k G, List.drop_eq_getElem_cons hk]
  rw [List.flatMap_append, List.flatMap_cons]
theorem fm_take (G : List Sg) (k : Nat) (hk : k < G.length) : ((G.take (k + 1)).flatMap (·.2)).length = ((G.take k).flatMap (·.2)).length + G[k].2.length := by
  rw [List.take_succ_eq_append_getElem hk, List.flatMap_append, List.length_append, List.flatMap_cons, List.flatMap_nil, List.append_nil]
theorem fm_at {G : List Sg} {R : List Nat} {k : Nat} (h : G.flatMap (·.2) = R) (hk : k < G.length) : ((G.take k).flatMap (·.2)).length + G[k].2.length ≤ R.length ∧ ∀ j, j < G[k].2.length → R[((G.take k).flatMap (·.2)).length + j]? = G[k].2[j]? := by
  rw [fm_split G k hk] at h
  subst h
  refine ⟨by simp only [List.length_append]; omega, fun j hj => ?_⟩
  rw [List.getElem?_append_right (by omega), List.getElem?_append_left (by omega)]
  congr 1; omega
/-- cells that were there before got and told were made -/
theorem Gt.old {W4 W : World} {L s b j : Nat} {R : List Nat} {v : Value} (h : Gt W4 W L s R) (hc : W4.cell? ⟨b, j, none⟩ = some v) : W.cell? ⟨b, j, none⟩ = some v := cell_later h.bel hc
/-- a row that lies apart from got and told -/
def Apt (W4 wd : World) (db : Nat) (m : List Nat) : Prop := ∀ W, KeptIn (fun g => g = W4.heap.size ∨ g = W4.heap.size + 1) wd W → ∀ (j y : Nat), m[j]? = some y → W.cell? ⟨db, j, none⟩ = some (.int .u8 (y : Int))
theorem apt_of {W4 W0 wd : World} {B cap n db : Nat} {m : List Nat} (hs : W4.heap.size + 1 + 1 ≤ B) (ho : wd.ownsRow B 5 1 (.slice (some ⟨db, 0, none⟩) n cap) n (m.map bv)) (hn : m.length = n) : Apt W4 wd db m := by
  intro W k j y hj
  obtain ⟨h1, h2, cur, h3⟩ := owns_ltK ho db rfl
  have hlt : j < m.length := (List.getElem?_eq_some_iff.1 hj).1
  have h4 : wd.cell? ⟨db, j, none⟩ = some (bv y) := by
    rw [ho.cellAt _ (by omega), List.getElem?_map, hj]; rfl
  have h5 : W.heap[db]? = wd.heap[db]? := k.block db h1 (by omega)
  rw [World.cell?_of_block h5]
  exact h4
theorem apt_zero {W4 wd : World} {m : Nat} {xd : List Nat} (hs : W4.heap.size + 1 + 1 ≤ wd.heap.size) (hx : xd = List.replicate m 0) : Apt W4 (wd.alloc (.cells (zArr m) 5)) wd.heap.size xd := by
  intro W k j y hj
  have h5 : W.heap[wd.heap.size]? = (wd.alloc (.cells (zArr m) 5)).heap[wd.heap.size]? := k.block _ (by simp) (by omega)
  rw [World.cell?_of_block h5, blk_at (heap_new wd _)]
  subst hx
  have hlt : j < m := by have := (List.getElem?_eq_some_iff.1 hj).1; simpa using this
  simp [hlt] at hj
  subst hj
  simp [zArr, hlt, bv]
theorem got_cell {W : World} {g L s : Nat} {R : List Nat} (h : W.heap[g]? = some (.cells ((R.take s ++ List.replicate (L - s) 0).map bv).toArray 5 (0, 0))) (hs : s < L) (hR : s ≤ R.length) : ∃ u, W.cell? ⟨g, s, none⟩ = some (.int .u8 u) := by
  have h1 : (R.take s).length = s := by rw [List.length_take]; omega
  refine ⟨0, ?_⟩
  rw [blk_at h, List.getElem?_toArray, List.getElem?_map, List.getElem?_append_right (by omega), h1, Nat.sub_self, List.getElem?_replicate, if_pos (by omega)]
  rfl
end Go.Proofs.YtefgdhoapmikhaaDoor
