import Derived.Test.YtfifaaopdhcaaaaGreatDoorY20
import Derived.Test.YtfifaaopdhcaaaaGreatDoorY18
import Derived.Test.YtfifaaopdhcaaaaGreatDoorY22
import Derived.Test.YtfifaaopdhcaaaaGreatDoorY25
import Derived.Deep.CutRange
import Derived.Deep.AppendLies
namespace Go.Proofs.YtfifaaopdhcaaaaGreatDoor
open Go.RowKit
set_option linter.unusedVariables false
set_option linter.unusedSimpArgs false
set_option maxRecDepth 100000
theorem infoEr : (Tryz.prog.info? 116).map (fun i => (i.zero, i.size, i.bytes)) = some (some (.agg #[.int .u64 0, .int .u64 0]), 2, 16) := by kernel_rfl
def nzW (wide : Bool) : Nat := if wide = true then 8 else 4
theorem bnumZ {w W : World} {c r : Nat} {ao : Option Addr} {cap : Nat} {l : List Nat} {at_ er Z : Nat} (wide : Bool) (hZ : nzW wide = Z) (h : Bg w W c r ao cap l at_ er) : Calls Tryz.prog 52 #[.pointer (some ⟨c, 0, none⟩), .bool wide] W fun e w' => e = .returned (.int .u64 ((rvV l at_ Z : Nat) : Int)) ∧ Bg w w' c r ao cap l (raA l at_ Z) (ndE (okR l at_ Z) er) ∧ KeptIn (two c r) W w' := by
  subst hZ; exact bnumG wide h
def sA (l : List Nat) (z a : Nat) : Nat → Nat
  | 0 => a
  | k + 1 => raA l (raA l (sA l z a k) z) z
def sE (l : List Nat) (z a e : Nat) : Nat → Nat
  | 0 => e
  | k + 1 => ndE (okR l (raA l (sA l z a k) z) z) (ndE (okR l (sA l z a k) z) (sE l z a e k))
def sV (l : List Nat) (z a : Nat) : Nat → List (Nat × Nat)
  | 0 => []
  | k + 1 => sV l z a k ++ [(rvV l (sA l z a k) z, rvV l (raA l (sA l z a k) z) z)]
theorem sV_len (l : List Nat) (z a : Nat) : ∀ k, (sV l z a k).length = k
  | 0 => rfl
  | k + 1 => by simp [sV, sV_len l z a k]
theorem sV_lt (l : List Nat) (z : Nat) (hz : z = 4 ∨ z = 8) (hl : ∀ x ∈ l, x < 256) (a : Nat) : ∀ k, ∀ x ∈ sV l z a k, x.1 < 18446744073709551616 ∧ x.2 < 18446744073709551616
  | 0 => by simp [sV]
  | k + 1 => by
    intro x hx
    simp only [sV, List.mem_append, List.mem_singleton] at hx
    have hp : 256 ^ z ≤ 18446744073709551616 := by rcases hz with rfl | rfl <;> decide
    rcases hx with hx | rfl
    · exact sV_lt l z hz hl a k x hx
    · exact ⟨rvV_lt2 _ _ _ _ hl hp (by decide), rvV_lt2 _ _ _ _ hl hp (by decide)⟩
/-- where the runs begin, what is wrong by then, how many are said -/
def sHa (l : List Nat) (wide : Bool) : Nat := if wide = true then raA l (raA l 0 4) 4 else raA l 0 4
def sHe (l : List Nat) (wide : Bool) : Nat := if wide = true then ndE (okR l (raA l 0 4) 4) (ndE (okR l 0 4) 0) else ndE (okR l 0 4) 0
def sSd (l : List Nat) (wide : Bool) (K : Nat) : Bool := !wide || rvV l (raA l 0 4) 4 == K
/-- so many runs are read -/
structure Sto (l : List Nat) (wide : Bool) (K : Nat) : Prop where
  go : ∀ j, j < K → sE l (nzW wide) (sHa l wide) (sHe l wide) j = 0 ∧ sA l (nzW wide) (sHa l wide) j < l.length
  stop : sE l (nzW wide) (sHa l wide) (sHe l wide) K ≠ 0 ∨ l.length ≤ sA l (nzW wide) (sHa l wide) K
  le : K ≤ 1099511627776
def sFin (l : List Nat) (wide : Bool) (K : Nat) : Nat := ndE (decide (sA l (nzW wide) (sHa l wide) K = l.length)) (ndE (sSd l wide K) (ndE (decide (0 < K)) (sE l (nzW wide) (sHa l wide) (sHe l wide) K)))
def sVal (l : List Nat) (wide : Bool) (K : Nat) : List (Nat × Nat) := sV l (nzW wide) (sHa l wide) K
theorem ndE_zero {b : Bool} {e : Nat} (h : ndE b e = 0) : b = true ∧ e = 0 := by
  unfold ndE at h
  cases b
  · simp at h; split at h <;> simp_all
  · simpa using h
theorem pair_at0 : ∀ (l : List (Nat × Nat)) (j : Nat) (hj : j < l.length), (l.flatMap (fun x : Nat × Nat => [Value.int .u64 (x.1 : Int), Value.int .u64 (x.2 : Int)]))[j * 2]? = some (.int .u64 ((l[j].1 : Nat) : Int))
  | x :: l, 0, _ => by simp
  | x :: l, j + 1, hj => by
    have := pair_at0 l j (by simpa using hj)
    rw [List.flatMap_cons, show (j + 1) * 2 = j * 2 + 1 + 1 by omega]
    simpa using this
theorem pair_at1 : ∀ (l : List (Nat × Nat)) (j : Nat) (hj : j < l.length), (l.flatMap (fun x : Nat × Nat => [Value.int .u64 (x.1 : Int), Value.int .u64 (x.2 : Int)]))[j * 2 + 1]? = some (.int .u64 ((l[j].2 : Nat) : Int))
  | x :: l, 0, _ => by simp
  | x :: l, j + 1, hj => by
    have := pair_at1 l j (by simpa using hj)
    rw [List.flatMap_cons, show (j + 1) * 2 + 1 = j * 2 + 1 + 1 + 1 by omega]
    simpa using this
set_option maxHeartbeats 8000000 in
theorem unpackStatus0_ok (ao : Option Addr) (cap N : Nat) (l : List Nat) (w : World) (h : BRow w ao cap l) (hN : l.length = N) (K : Nat) (hK : Sto l false K) (hfin : sFin l false K = 0) :
    Calls Tryz.prog 20 #[.slice ao N cap, .bool false] w fun e w' => ∃ ra rc, e = .returned (.tuple #[.agg #[.int .u32 ((rvV l 0 4 : Nat) : Int), .slice ra K rc], .int .i64 0]) ∧ Runs w' ra (sVal l false K) ∧ Below w.heap.size w w' := by
  obtain ⟨i0, hi, hz0, hz1, hz2⟩ := info_parts infoEr
  have HUp : Hid (∀ W, Below w.heap.size w W → Calls Tryz.prog 31 #[.slice ao N cap] W fun e w' => ∃ c r ao' cap', e = .returned (.pointer (some ⟨c, 0, none⟩)) ∧ Bg W w' c r ao' cap' l 0 0) := fun W hb => unpackG ao cap N l W (h.later hb) hN
  have HFn : Hid _ := hfin
  unfold sFin at HFn
  have HLt : Hid (∀ x ∈ l, x < 256) := h.lt
  have HGo : Hid _ := hK.go
  have HSt : Hid _ := hK.stop
  have hKb := hK.le
  clear h hN hfin hK
  unfold sVal
  obtain ⟨Z, hZ⟩ : ∃ Z, nzW false = Z := ⟨_, rfl⟩
  have HZ : Hid (Z = 4 ∨ Z = 8) := by show _ ∨ _; rw [← hZ]; decide
  have HZe : Hid (nzW false = Z) := hZ
  rw [hZ] at HFn HGo HSt ⊢
  clear hZ
  obtain ⟨cx, hcx⟩ : ∃ V, rvV l 0 4 = V := ⟨_, rfl⟩
  obtain ⟨a1, ha1⟩ : ∃ a1, raA l 0 4 = a1 := ⟨_, rfl⟩
  obtain ⟨e1, he1⟩ : ∃ e1, ndE (okR l 0 4) 0 = e1 := ⟨_, rfl⟩
  have hsa : sHa l false = a1 := by rw [← ha1]; simp [sHa]
  have hse : sHe l false = e1 := by rw [← he1]; simp [sHe]
  rw [hsa, hse] at HFn HGo HSt
  rw [hsa, hcx]
  have HV : Hid (rvV l 0 4 = cx ∧ raA l 0 4 = a1 ∧ ndE (okR l 0 4) 0 = e1) := ⟨hcx, ha1, he1⟩
  have hq : sSd l false K = true := by simp [sSd]
  rw [hq] at HFn
  obtain ⟨a2, ha2⟩ : ∃ a2, a1 = a2 := ⟨_, rfl⟩
  obtain ⟨e2, he2⟩ : ∃ e2, e1 = e2 := ⟨_, rfl⟩
  rw [ha2, he2] at HFn HGo HSt HV
  rw [ha2]
  clear hq ha2 he2
  clear hsa hse hcx ha1 he1
  go_enter Tryz.func20, Tryz.ntmps20
  go_wp2_with fail
  have hx := mkb1 w #[.int .u32 0, .slice none 0 0] 67
  generalize w.alloc (Obj.cells #[.int .u32 0, .slice none 0 0] 67) = W0 at *
  refine (HUp.out _ hx.bel).mono ?_
  rintro e W1 ⟨c, r, ao', cap', rfl, hbd⟩
  have HX : Hid (Bx1 w W0 #[.int .u32 0, .slice none 0 0] 67) := hx
  have H1 : Hid (Bg W0 W1 c r ao' cap' l 0 0) := hbd
  clear hx hbd HUp
  go_wp2_with fail
  have hc1 := bu32G H1.out
  rw [HV.out.1, HV.out.2.1, HV.out.2.2] at hc1
  refine hc1.mono ?_
  rintro e W2 ⟨rfl, hbd, _⟩
  have H2 : Hid (Bg W0 W2 c r ao' cap' l a2 e2) := hbd
  clear hbd H1 hc1
  go_wp2_with fail
  have hU : Ug W0 (W2.alloc (Obj.cells #[.int .u32 (cx : Int), .slice none 0 0] 67)) c r ao' cap' l a2 e2 W2.heap.size (.int .u32 (cx : Int)) 67 (.slice none 0 0) 116 2 0 [] := ⟨H2.out.later (below1 W2 _), heap_new W2 _, World.ownsRow_nil _ _ _ _, H2.out.bel.size, by decide⟩
  generalize W2.alloc (Obj.cells #[.int .u32 (cx : Int), .slice none 0 0] 67) = W3 at *
  generalize W2.heap.size = ge at *
  have HU3 : Hid _ := hU
  clear hU H2
  have HU4 : Hid (Ug W0 W3 c r ao' cap' l a2 e2 ge (.int .u32 (cx : Int)) 67 (.slice none 0 0) 116 2 0 []) := HU3.out
  clear HU3
  go_loopg [] K (fun g wr => ∃ (k : Nat) (vo : Option Addr) (vc : Nat), k ≤ K ∧ g = K - k ∧ Hid (Ug W0 wr c r ao' cap' l (sA l Z a2 k) (sE l Z a2 e2 k) ge (.int .u32 (cx : Int)) 67 (.slice vo k vc) 116 2 k ((sV l Z a2 k).flatMap (fun x : Nat × Nat => [Value.int .u64 (x.1 : Int), Value.int .u64 (x.2 : Int)]))))
  case atStart => exact ⟨0, none, 0, Nat.zero_le _, rfl, HU4.out⟩
  case round =>
    obtain ⟨k, vo, vc, hk, rfl, HU⟩ := hrel
    by_cases hlt : k < K
    · obtain ⟨g1, g2⟩ := HGo.out k hlt
      have HWl : Hid _ := wellG c (sE l Z a2 e2 k) wr HU.out.bd.c1
      rw [g1] at HWl
      obtain ⟨nl, hnl⟩ : ∃ nl, l.length - sA l Z a2 k = nl := ⟨_, rfl⟩
      have hnl0 : (0 : Int) < (nl : Int) := by omega
      have HLf : Hid _ := bleftG HU.out.bd hnl
      clear g1 g2 hnl
      go_wp2_with fail
      refine Calls.mono HWl.out ?_
      rintro e W5 ⟨rfl, hw⟩
      rw [hw]; clear hw W5 HWl
      go_wp2_with fail
      refine Calls.mono HLf.out ?_
      rintro e W5 ⟨rfl, q5, hw⟩
      have HU5 : Hid (Ug W0 W5 c r ao' cap' l (sA l Z a2 k) (sE l Z a2 e2 k) ge (.int .u32 (cx : Int)) 67 (.slice vo k vc) 116 2 k ((sV l Z a2 k).flatMap (fun x : Nat × Nat => [Value.int .u64 (x.1 : Int), Value.int .u64 (x.2 : Int)]))) := by rw [hw]; exact HU.out.later (below_drewN _ q5)
      clear hw HLf HU
      have HN1 : Hid (Calls Tryz.prog 52 #[.pointer (some ⟨c, 0, none⟩), .bool false] W5.drew fun e W6 => e = .returned (.int .u64 ((rvV l (sA l Z a2 k) Z : Nat) : Int)) ∧ W6.cell? ⟨ge, 1, none⟩ = some (.slice vo k vc) ∧ Hid (Ug W0 W6 c r ao' cap' l (raA l (sA l Z a2 k) Z) (ndE (okR l (sA l Z a2 k) Z) (sE l Z a2 e2 k)) ge (.int .u32 (cx : Int)) 67 (.slice vo k vc) 116 2 k ((sV l Z a2 k).flatMap (fun x : Nat × Nat => [Value.int .u64 (x.1 : Int), Value.int .u64 (x.2 : Int)])))) := by
        have hU := HU5.out.later (below_drewN W5 1)
        have h0 := bnumZ false HZe.out hU.bd
        refine h0.mono ?_
        rintro e W6 ⟨rfl, hb, hk6⟩
        have h6 := hU.keep hb hk6
        exact ⟨rfl, h6.c1, h6⟩
      have HN2 : Hid (∀ W6, Ug W0 W6 c r ao' cap' l (raA l (sA l Z a2 k) Z) (ndE (okR l (sA l Z a2 k) Z) (sE l Z a2 e2 k)) ge (.int .u32 (cx : Int)) 67 (.slice vo k vc) 116 2 k ((sV l Z a2 k).flatMap (fun x : Nat × Nat => [Value.int .u64 (x.1 : Int), Value.int .u64 (x.2 : Int)])) → Calls Tryz.prog 52 #[.pointer (some ⟨c, 0, none⟩), .bool false] W6 fun e W7 => e = .returned (.int .u64 ((rvV l (raA l (sA l Z a2 k) Z) Z : Nat) : Int)) ∧ W7.cell? ⟨ge, 1, none⟩ = some (.slice vo k vc) ∧ (∀ o, (W7.alloc o).cell? ⟨ge, 1, none⟩ = some (.slice vo k vc)) ∧ Hid (Ug W0 W7 c r ao' cap' l (sA l Z a2 (k + 1)) (sE l Z a2 e2 (k + 1)) ge (.int .u32 (cx : Int)) 67 (.slice vo k vc) 116 2 k ((sV l Z a2 k).flatMap (fun x : Nat × Nat => [Value.int .u64 (x.1 : Int), Value.int .u64 (x.2 : Int)])))) := fun W6 hU => by
        have h0 := bnumZ false HZe.out hU.bd
        refine h0.mono ?_
        rintro e W7 ⟨rfl, hb, hk6⟩
        have h6 := hU.keep hb hk6
        exact ⟨rfl, h6.c1, fun o => (h6.later (below1 W7 o)).c1, h6⟩
      have b5 : W5.cell? ⟨ge, 1, none⟩ = some (.slice vo k vc) := HU5.out.c1
      have HV9 : Hid ((sV l Z a2 (k + 1)).flatMap (fun x : Nat × Nat => [Value.int .u64 (x.1 : Int), Value.int .u64 (x.2 : Int)]) = (sV l Z a2 k).flatMap (fun x : Nat × Nat => [Value.int .u64 (x.1 : Int), Value.int .u64 (x.2 : Int)]) ++ [.int .u64 ((rvV l (sA l Z a2 k) Z : Nat) : Int), .int .u64 ((rvV l (raA l (sA l Z a2 k) Z) Z : Nat) : Int)]) := by show _ = _; simp [sV]
      obtain ⟨ln, hln⟩ : ∃ x, rvV l (sA l Z a2 k) Z = x := ⟨_, rfl⟩
      obtain ⟨fl, hfl⟩ : ∃ x, rvV l (raA l (sA l Z a2 k) Z) Z = x := ⟨_, rfl⟩
      rw [hln] at HN1 HV9
      rw [hfl] at HN2 HV9
      have K1 : Hid True := trivial
      have K2 : Hid True := trivial
      clear hln hfl HU5
      go_wp2
      go_region_law (first | (go_simp; go_at_call 52; have hk1 := K1; clear hk1 K1; refine Calls.mono HN1.out ?_; rintro e W6 ⟨rfl, m6, HU6⟩; dsimp only) | (go_simp; go_at_call 52; have hk2 := K2; clear hk2 K2; refine Calls.mono (HN2.out W6 HU6.out) ?_; rintro e W7 ⟨rfl, m7, m7a, HU7⟩; dsimp only) | (refine step_append_lies _ (by rfl) _ _ 65 (by rfl) W0.heap.size 116 i0 (.agg #[.int .u64 0, .int .u64 0]) 2 16 Tryz.underlying65 hi hz0 hz1 hz2 rfl (by decide) (.slice vo k vc) k ((sV l Z a2 k).flatMap (fun x : Nat × Nat => [Value.int .u64 (x.1 : Int), Value.int .u64 (x.2 : Int)])) (by rfl) HU7.out.rowA ⟨W7.heap.size, 0, none⟩ 1 1 [.int .u64 (ln : Int), .int .u64 (fl : Int)] (by rfl) rfl (World.news_of_block (heap_alloc_new W7 _)) (by simp [Value.oneCell']) (by decide) (by unfold maxLen; omega) (by omega) HU7.out.szA _ rfl ?_; intro g8 cp8 W8 ho8 hg8 _ _; have hgr := HU7.out.growB hg8; have z1 : W8.cell? ⟨ge, 1, none⟩ = some (.slice vo k vc) := (blk_at hgr 1).trans rfl; have zf : W8.frozen? ⟨ge, 1, none⟩ = false := blk_free hgr 1; have HU8 : Hid _ := HU7.out.grow ho8 hg8; clear ho8 hg8 hgr))
      all_goals go_wp2
      all_goals go_roundg (K - (k + 1))
      all_goals first
        | omega
        | exact ⟨k + 1, some ⟨g8, 0, none⟩, cp8, by omega, rfl, by rw [HV9.out]; exact HU8.out⟩
    · obtain rfl : K = k := by omega
      have he0 : sE l Z a2 e2 K = 0 := (ndE_zero (ndE_zero (ndE_zero HFn.out).2).2).2
      have hst : l.length ≤ sA l Z a2 K := by rcases HSt.out with h9 | h9; exact absurd he0 h9; exact h9
      have HWl : Hid _ := wellG c (sE l Z a2 e2 K) wr HU.out.bd.c1
      have HE0 : Hid (sE l Z a2 e2 K = 0) := he0
      rw [HE0.out] at HWl
      have HLf : Hid (Calls Tryz.prog 35 #[.pointer (some ⟨c, 0, none⟩)] wr fun e w' => e = .returned (.int .i64 ((0 : Nat) : Int)) ∧ ∃ q, w' = wr.drewN q) := bleftG HU.out.bd (by have := hst; omega)
      clear he0 hst
      go_wp2_with fail
      refine Calls.mono HWl.out ?_
      rintro e W5 ⟨rfl, hw⟩
      rw [hw]; clear hw W5 HWl
      go_wp2_with fail
      refine Calls.mono HLf.out ?_
      rintro e W5 ⟨rfl, q5, hw⟩
      have HU5 : Hid (Ug W0 W5 c r ao' cap' l (sA l Z a2 K) (sE l Z a2 e2 K) ge (.int .u32 (cx : Int)) 67 (.slice vo K vc) 116 2 K ((sV l Z a2 K).flatMap (fun x : Nat × Nat => [Value.int .u64 (x.1 : Int), Value.int .u64 (x.2 : Int)]))) := by rw [hw]; exact HU.out.later (below_drewN _ q5)
      clear hw HLf HU
      have b1 : W5.cell? ⟨ge, 1, none⟩ = some (.slice vo K vc) := HU5.out.c1
      obtain ⟨B0, hB0⟩ : ∃ B0, decide (0 < K) = B0 := ⟨_, rfl⟩
      have HB0 : Hid (decide (0 < K) = B0) := hB0
      clear hB0
      go_wp2_with fail
      rw [HB0.out]
      refine (needG B0 HU5.out.bd).mono ?_
      rintro e W6 ⟨rfl, hb, hk⟩
      have HU6 : Hid (Ug W0 W6 c r ao' cap' l (sA l Z a2 K) (ndE B0 (sE l Z a2 e2 K)) ge (.int .u32 (cx : Int)) 67 (.slice vo K vc) 116 2 K ((sV l Z a2 K).flatMap (fun x : Nat × Nat => [Value.int .u64 (x.1 : Int), Value.int .u64 (x.2 : Int)]))) := HU5.out.keep hb (two_of_c hk)
      clear hb hk HU5 b1
      have b1 : W6.cell? ⟨ge, 1, none⟩ = some (.slice vo K vc) := HU6.out.c1
      obtain ⟨B1, hB1⟩ : ∃ B1, B1 = true := ⟨_, rfl⟩
      go_wp2_with fail
      rw [← hB1]
      refine (needG B1 HU6.out.bd).mono ?_
      rintro e W7 ⟨rfl, hb, hk⟩
      have HU7 : Hid (Ug W0 W7 c r ao' cap' l (sA l Z a2 K) (ndE B1 (ndE B0 (sE l Z a2 e2 K))) ge (.int .u32 (cx : Int)) 67 (.slice vo K vc) 116 2 K ((sV l Z a2 K).flatMap (fun x : Nat × Nat => [Value.int .u64 (x.1 : Int), Value.int .u64 (x.2 : Int)]))) := HU6.out.keep hb (two_of_c hk)
      clear hb hk HU6 b1
      have y0 := HU7.out.c0
      have y1 := HU7.out.c1
      have HFq : Hid (ndE (decide (sA l Z a2 K = l.length)) (ndE B1 (ndE B0 (sE l Z a2 e2 K))) = 0) := by
        have h9 := HFn.out
        rw [HB0.out, ← hB1] at h9
        exact h9
      go_wp2_with fail
      refine (wholeT_ok cx vo K vc HU7.out.bd HFq.out).mono ?_
      rintro e W9 ⟨rfl, hb9, hk9⟩
      have HY : Hid (Below w.heap.size w W9 ∧ W9.heap[w.heap.size]? = some (.cells #[.int .u32 0, .slice none 0 0] 67 (0, 0))) := ⟨HX.out.bel.trans (hb9.mono HX.out.bel.size), by rw [hb9.block _ (by have := HX.out.size; omega)]; exact HX.out.a⟩
      have HR9 : Hid (W9.ownsRow W0.heap.size 116 2 (.slice vo K vc) K ((sV l Z a2 K).flatMap (fun x : Nat × Nat => [Value.int .u64 (x.1 : Int), Value.int .u64 (x.2 : Int)]))) := owns_sameU HU7.out.row (fun g hg => hk9.block g (owns_typeU HU7.out.row g hg).2.2 (fun e => HU7.out.nr.2.2.2.1 (e ▸ hg)))
      have za0 : W9.cell? ⟨w.heap.size, 0, none⟩ = some (.int .u32 0) := by rw [blk_at HY.out.2]; rfl
      have za1 : W9.cell? ⟨w.heap.size, 1, none⟩ = some (.slice none 0 0) := by rw [blk_at HY.out.2]; rfl
      have ya0 : W9.frozen? ⟨w.heap.size, 0, none⟩ = false := blk_free HY.out.2 0
      have ya1 : W9.frozen? ⟨w.heap.size, 1, none⟩ = false := blk_free HY.out.2 1
      clear hb9 hk9 y0 y1 HU7
      go_wp2
      obtain ⟨hp, hq⟩ := putc2 HY.out.2 (.int .u32 (cx : Int)) (.slice vo K vc)
      have hs0 : w.heap.size < W0.heap.size := by have := HX.out.size; omega
      refine bodyPost_ret (results_cell_tmp1 rfl _ _ w.heap.size 67 _ (0, 0) _ rfl hp Tryz.underlying67 rfl infoT) rfl ⟨vo, vc, rfl, ⟨sV_lt l Z HZ.out HLt.out a2 K, fun hne => ?_⟩, HY.out.1.trans (hq.below HY.out.1.size (fun g hg => by omega))⟩
      have h9 := owns_sameU HR9.out (fun g hg => hq.block g (owns_typeU HR9.out g hg).2.2 (by have h1 := (owns_typeU HR9.out g hg).2.1; omega))
      obtain ⟨g, cp, hv, hc⟩ := owns_at h9 (by cases hh : sV l Z a2 K with | nil => exact absurd hh hne | cons x t => simp)
      injection hv with h1 h2 h3
      subst h1
      refine ⟨g, 0, rfl, fun j hj => ⟨?_, ?_⟩⟩
      · exact hc (j * 2) _ (pair_at0 _ j hj)
      · have h5 := hc (j * 2 + 1) _ (pair_at1 _ j hj)
        rw [← Nat.add_assoc] at h5
        exact h5
end Go.Proofs.YtfifaaopdhcaaaaGreatDoor
