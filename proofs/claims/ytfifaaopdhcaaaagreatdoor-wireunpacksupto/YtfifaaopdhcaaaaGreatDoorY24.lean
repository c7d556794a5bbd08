import Derived.Test.YtfifaaopdhcaaaaGreatDoorY20
import Derived.Test.YtfifaaopdhcaaaaGreatDoorY17
import Derived.Test.YtfifaaopdhcaaaaGreatDoorY18
import Derived.Test.YtfifaaopdhcaaaaGreatDoorY22
import Derived.Test.YtfifaaopdhcaaaaGreatDoorY23
import Derived.Deep.CutRange
import Derived.Deep.AppendLies
namespace Go.Proofs.YtfifaaopdhcaaaaGreatDoor
open Go.RowKit
set_option linter.unusedVariables false
set_option linter.unusedSimpArgs false
set_option maxRecDepth 100000
theorem infoEt : (Tryz.prog.info? 9).map (fun i => (i.zero, i.size, i.bytes)) = some (some (.string ⟨#[]⟩), 1, 16) := by kernel_rfl
def tA (l : List Nat) (a : Nat) : Nat → Nat
  | 0 => a
  | k + 1 => taA l (tA l a k)
def tE (l : List Nat) (a e : Nat) : Nat → Nat
  | 0 => e
  | k + 1 => ndE (okT l (tA l a k)) (tE l a e k)
def tV (l : List Nat) (a : Nat) : Nat → List ByteArray
  | 0 => []
  | k + 1 => tV l a k ++ [tvS l (tA l a k)]
theorem tV_len (l : List Nat) (a : Nat) : ∀ k, (tV l a k).length = k
  | 0 => rfl
  | k + 1 => by simp [tV, tV_len l a k]
/-- how Metas ends -/
def tFin (l : List Nat) : Nat := ndE (decide (tA l (raA l (taA l 0) 4) (cnV (rvV l (taA l 0) 4) 16 (ndE (okR l (taA l 0) 4) (ndE (okT l 0) 0))) = l.length)) (tE l (raA l (taA l 0) 4) (cnE (rvV l (taA l 0) 4) 16 (ndE (okR l (taA l 0) 4) (ndE (okT l 0) 0))) (cnV (rvV l (taA l 0) 4) 16 (ndE (okR l (taA l 0) 4) (ndE (okT l 0) 0))))
def tCnt (l : List Nat) : Nat := cnV (rvV l (taA l 0) 4) 16 (ndE (okR l (taA l 0) 4) (ndE (okT l 0) 0))
def tVal (l : List Nat) : List ByteArray := tV l (raA l (taA l 0) 4) (tCnt l)
theorem cnV_let (n most er : Nat) : cnV n most er ≤ most := by
  by_cases h2 : most < n
  · simp only [cnV, cnE, if_pos h2]; by_cases h3 : er = 0 <;> simp [h3]
  · simp only [cnV, cnE, if_neg h2]; split <;> omega
theorem tvS_size (l : List Nat) (a : Nat) : (tvS l a).size ≤ 4096 := by
  unfold tvS; split
  · rename_i h
    unfold okT at h; simp at h
    have := h.2.1
    show (bstr _).data.size ≤ 4096
    rw [← Array.length_toList]
    simp [bstr]; omega
  · decide
theorem tV_sz (l : List Nat) (a : Nat) : ∀ k, ∀ x ∈ tV l a k, x.size ≤ 9223372036854775807
  | 0 => by simp [tV]
  | k + 1 => by
    intro x hx
    simp only [tV, List.mem_append, List.mem_singleton] at hx
    rcases hx with hx | rfl
    · exact tV_sz l a k x hx
    · have := tvS_size l (tA l a k); omega
set_option maxHeartbeats 4000000 in
theorem unpackMetas_ok (ao : Option Addr) (cap N : Nat) (l : List Nat) (w : World) (h : BRow w ao cap l) (hN : l.length = N) (hT : Tabs w) (hfin : tFin l = 0) :
    Calls Tryz.prog 12 #[.slice ao N cap] w fun e w' => ∃ ia ic, e = .returned (.tuple #[.agg #[.string (tvS l 0), .slice ia (tCnt l) ic], .int .i64 0]) ∧ Strs w' ia (tVal l) ∧ Below w.heap.size w w' := by
  obtain ⟨i0, hi, hz0, hz1, hz2⟩ := info_parts infoEt
  have HUp : Hid (∀ W, Below w.heap.size w W → Calls Tryz.prog 31 #[.slice ao N cap] W fun e w' => ∃ c r ao' cap', e = .returned (.pointer (some ⟨c, 0, none⟩)) ∧ Bg W w' c r ao' cap' l 0 0) := fun W hb => unpackG ao cap N l W (h.later hb) hN
  have HFn : Hid _ := hfin
  unfold tFin at HFn
  have HT : Hid (Tabs w) := hT
  have HLt : Hid (∀ x ∈ l, x < 256) := h.lt
  clear h hN hfin hT
  unfold tVal tCnt
  obtain ⟨s, hs⟩ : ∃ V, tvS l 0 = V := ⟨_, rfl⟩
  obtain ⟨a1, ha1⟩ : ∃ a1, taA l 0 = a1 := ⟨_, rfl⟩
  obtain ⟨e1, he1⟩ : ∃ e1, ndE (okT l 0) 0 = e1 := ⟨_, rfl⟩
  rw [ha1, he1] at HFn
  rw [ha1, hs, he1]
  obtain ⟨n, hn⟩ : ∃ n, rvV l a1 4 = n := ⟨_, rfl⟩
  obtain ⟨a2, ha2⟩ : ∃ a2, raA l a1 4 = a2 := ⟨_, rfl⟩
  obtain ⟨e2, he2⟩ : ∃ e2, ndE (okR l a1 4) e1 = e2 := ⟨_, rfl⟩
  rw [hn, ha2, he2] at HFn ⊢
  have hn16 : n < 4294967296 := by rw [← hn]; exact rvV_lt2 _ _ _ _ HLt.out (by decide) (by decide)
  obtain ⟨m, hm⟩ : ∃ m, cnV n 16 e2 = m := ⟨_, rfl⟩
  obtain ⟨e3, he3⟩ : ∃ e3, cnE n 16 e2 = e3 := ⟨_, rfl⟩
  rw [hm, he3] at HFn
  rw [hm]
  have hm64 : m ≤ 16 := by rw [← hm]; exact cnV_let _ _ _
  have HV : Hid (tvS l 0 = s ∧ taA l 0 = a1 ∧ ndE (okT l 0) 0 = e1) := ⟨hs, ha1, he1⟩
  have HV2 : Hid (rvV l a1 4 = n ∧ raA l a1 4 = a2 ∧ ndE (okR l a1 4) e1 = e2) := ⟨hn, ha2, he2⟩
  have HV3 : Hid (cnV n 16 e2 = m ∧ cnE n 16 e2 = e3) := ⟨hm, he3⟩
  have hwn : IntKind.u32.wrap (n : Int) = (n : Int) := by rw [IntKind.wrap_u32]; omega
  clear hs ha1 he1 hn ha2 he2 hm he3
  go_enter Tryz.func12, Tryz.ntmps12
  go_wp2_with fail
  have hx := mkb1 w #[.string ⟨#[]⟩, .slice none 0 0] 46
  generalize w.alloc (Obj.cells #[.string ⟨#[]⟩, .slice none 0 0] 46) = W0 at *
  refine (HUp.out _ hx.bel).mono ?_
  rintro e W1 ⟨c, r, ao', cap', rfl, hbd⟩
  have HX : Hid (Bx1 w W0 #[.string ⟨#[]⟩, .slice none 0 0] 46) := hx
  have HT0 : Hid (Tabs W0) := HT.out.later hx.bel
  have H1 : Hid (Bg W0 W1 c r ao' cap' l 0 0) := hbd
  clear hx hbd HUp HT
  go_wp2_with fail
  have hc1 := btextG H1.out (HT0.out.later H1.out.bel)
  rw [HV.out.1, HV.out.2.1, HV.out.2.2] at hc1
  refine hc1.mono ?_
  rintro e W2 ⟨rfl, hbd, _⟩
  have H2 : Hid (Bg W0 W2 c r ao' cap' l a1 e1) := hbd
  clear hbd H1 hc1
  go_wp2_with fail
  have hU : Ug W0 (W2.alloc (Obj.cells #[.string s, .slice none 0 0] 46)) c r ao' cap' l a1 e1 W2.heap.size (.string s) 46 (.slice none 0 0) 9 1 0 [] := ⟨H2.out.later (below1 W2 _), heap_new W2 _, World.ownsRow_nil _ _ _ _, H2.out.bel.size, by decide⟩
  generalize W2.alloc (Obj.cells #[.string s, .slice none 0 0] 46) = W3 at *
  generalize W2.heap.size = ge at *
  have HU3 : Hid _ := hU
  clear hU H2
  have hc2 := bu32G HU3.out.bd
  rw [HV2.out.1, HV2.out.2.1, HV2.out.2.2] at hc2
  refine hc2.mono ?_
  rintro e W4 ⟨rfl, hbd, hk4⟩
  have HU4 : Hid (Ug W0 W4 c r ao' cap' l a2 e2 ge (.string s) 46 (.slice none 0 0) 9 1 0 []) := HU3.out.keep hbd hk4
  clear hbd hk4 HU3 hc2
  go_wp2_with fail
  have hc3 := countG n 16 (by omega) (by decide) HU4.out.bd
  rw [HV3.out.1, HV3.out.2] at hc3
  refine hc3.mono ?_
  rintro e W5 ⟨rfl, hbd, hk5⟩
  have HU5 : Hid (Ug W0 W5 c r ao' cap' l a2 e3 ge (.string s) 46 (.slice none 0 0) 9 1 0 []) := HU4.out.keep hbd hk5
  clear hbd hk5 HU4 hc3
  go_wp2_with fail
  go_loopw [15] (fun iv wr => ∃ (k : Nat) (vo : Option Addr) (vc : Nat), k ≤ m ∧ iv = .int .i64 (k : Nat) ∧ Hid (Ug W0 wr c r ao' cap' l (tA l a2 k) (tE l a2 e3 k) ge (.string s) 46 (.slice vo k vc) 9 1 k ((tV l a2 k).map (fun x : ByteArray => Value.string x)))) (fun iv _ => m - (intOf iv).toNat)
  case atStart => exact ⟨0, none, 0, Nat.zero_le _, rfl, HU5.out⟩
  case round =>
    obtain ⟨k, vo, vc, hk, rfl, HU⟩ := hrel
    by_cases hlt : k < m
    · have HN1 : Hid (∀ W, Below wr.heap.size wr W → Calls Tryz.prog 43 #[.pointer (some ⟨c, 0, none⟩)] W fun e W6 => e = .returned (.string (tvS l (tA l a2 k))) ∧ W6.cell? ⟨ge, 1, none⟩ = some (.slice vo k vc) ∧ (∀ o, (W6.alloc o).cell? ⟨ge, 1, none⟩ = some (.slice vo k vc)) ∧ Hid (Ug W0 W6 c r ao' cap' l (tA l a2 (k + 1)) (tE l a2 e3 (k + 1)) ge (.string s) 46 (.slice vo k vc) 9 1 k ((tV l a2 k).map (fun x : ByteArray => Value.string x)))) := fun W hW => by
        have hU := HU.out.later hW
        refine (btextG hU.bd (HT0.out.later hU.bd.bel)).mono ?_
        rintro e W6 ⟨rfl, hb, hk6⟩
        have h6 := hU.keep hb hk6
        exact ⟨rfl, h6.c1, fun o => (h6.later (below1 W6 o)).c1, h6⟩
      have b5 : wr.cell? ⟨ge, 1, none⟩ = some (.slice vo k vc) := HU.out.c1
      have HB0 : Hid (Below wr.heap.size wr wr.drew) := below_drewN wr 1
      have HV9 : Hid ((tV l a2 (k + 1)).map (fun x : ByteArray => Value.string x) = (tV l a2 k).map (fun x : ByteArray => Value.string x) ++ [.string (tvS l (tA l a2 k))]) := by show _ = _; simp [tV]
      obtain ⟨x, hx⟩ : ∃ x, tvS l (tA l a2 k) = x := ⟨_, rfl⟩
      rw [hx] at HN1 HV9
      have K1 : Hid True := trivial
      clear hx
      go_wp2
      go_region_law (first | (go_simp; go_at_call 43; have hk1 := K1; clear hk1 K1; refine Calls.mono (HN1.out _ HB0.out) ?_; rintro e W7 ⟨rfl, m7, m7a, HU7⟩; dsimp only) | (refine step_append_lies _ (by rfl) _ _ 44 (by rfl) W0.heap.size 9 i0 (.string ⟨#[]⟩) 1 16 Tryz.underlying44 hi hz0 hz1 hz2 rfl (by decide) (.slice vo k vc) k ((tV l a2 k).map (fun x : ByteArray => Value.string x)) (by rfl) HU7.out.rowA ⟨W7.heap.size, 0, none⟩ 1 1 [.string (x)] (by rfl) rfl (World.news_of_block (heap_alloc_new W7 _)) (by simp [Value.oneCell']) (by decide) (by unfold maxLen; omega) (by omega) HU7.out.szA _ rfl ?_; intro g8 cp8 W8 ho8 hg8 _ _; have hgr := HU7.out.growB hg8; have z1 : W8.cell? ⟨ge, 1, none⟩ = some (.slice vo k vc) := (blk_at hgr 1).trans rfl; have zf : W8.frozen? ⟨ge, 1, none⟩ = false := blk_free hgr 1; have HU8 : Hid _ := HU7.out.grow ho8 hg8; clear ho8 hg8 hgr))
      all_goals go_wp2
      all_goals go_roundw
      all_goals first
        | exact ⟨k + 1, some ⟨g8, 0, none⟩, cp8, by omega, by go_num, by rw [HV9.out]; exact HU8.out⟩
        | (simp [intOf]; omega)
    · obtain rfl : k = m := by omega
      have y0 := HU.out.c0
      have y1 := HU.out.c1
      go_wp2_with fail
      refine (wholeQ_ok s vo k vc HU.out.bd HFn.out).mono ?_
      rintro e W9 ⟨rfl, hb9, hk9⟩
      have HY : Hid (Below w.heap.size w W9 ∧ W9.heap[w.heap.size]? = some (.cells #[.string ⟨#[]⟩, .slice none 0 0] 46 (0, 0))) := ⟨HX.out.bel.trans (hb9.mono HX.out.bel.size), by rw [hb9.block _ (by have := HX.out.size; omega)]; exact HX.out.a⟩
      have HR9 : Hid (W9.ownsRow W0.heap.size 9 1 (.slice vo k vc) k ((tV l a2 k).map (fun x : ByteArray => Value.string x))) := owns_sameU HU.out.row (fun g hg => hk9.block g (owns_typeU HU.out.row g hg).2.2 (fun e => HU.out.nr.2.2.2.1 (e ▸ hg)))
      have za0 : W9.cell? ⟨w.heap.size, 0, none⟩ = some (.string ⟨#[]⟩) := by rw [blk_at HY.out.2]; rfl
      have za1 : W9.cell? ⟨w.heap.size, 1, none⟩ = some (.slice none 0 0) := by rw [blk_at HY.out.2]; rfl
      have ya0 : W9.frozen? ⟨w.heap.size, 0, none⟩ = false := blk_free HY.out.2 0
      have ya1 : W9.frozen? ⟨w.heap.size, 1, none⟩ = false := blk_free HY.out.2 1
      clear hb9 hk9 y0 y1 HU HU5
      go_wp2
      obtain ⟨hp, hq⟩ := putc2 HY.out.2 (.string s) (.slice vo k vc)
      have hs0 : w.heap.size < W0.heap.size := by have := HX.out.size; omega
      refine bodyPost_ret (results_cell_tmp1 rfl _ _ w.heap.size 46 _ (0, 0) _ rfl hp Tryz.underlying46 rfl infoQ) rfl ⟨vo, vc, rfl, ⟨tV_sz l a2 k, fun hne => ?_⟩, HY.out.1.trans (hq.below HY.out.1.size (fun g hg => by omega))⟩
      have h9 := owns_sameU HR9.out (fun g hg => hq.block g (owns_typeU HR9.out g hg).2.2 (by have h1 := (owns_typeU HR9.out g hg).2.1; omega))
      obtain ⟨g, cp, hv, hc⟩ := owns_at h9 (by simpa using hne)
      injection hv with h1 h2 h3
      subst h1
      refine ⟨g, 0, rfl, fun j hj => hc j _ ?_⟩
      rw [List.getElem?_map, List.getElem?_eq_getElem hj]; rfl
set_option maxHeartbeats 4000000 in
theorem unpackMetas_no (ao : Option Addr) (cap N : Nat) (l : List Nat) (w : World) (h : BRow w ao cap l) (hN : l.length = N) (hT : Tabs w) (z : Nat) (hz : z ≠ 0) (hfin : tFin l = z) :
    Calls Tryz.prog 12 #[.slice ao N cap] w fun e w' => e = .returned (.tuple #[.agg #[.string ⟨#[]⟩, .slice none 0 0], .int .i64 (z : Int)]) ∧ Below w.heap.size w w' := by
  obtain ⟨i0, hi, hz0, hz1, hz2⟩ := info_parts infoEt
  have HUp : Hid (∀ W, Below w.heap.size w W → Calls Tryz.prog 31 #[.slice ao N cap] W fun e w' => ∃ c r ao' cap', e = .returned (.pointer (some ⟨c, 0, none⟩)) ∧ Bg W w' c r ao' cap' l 0 0) := fun W hb => unpackG ao cap N l W (h.later hb) hN
  have HFn : Hid _ := hfin
  unfold tFin at HFn
  have HT : Hid (Tabs w) := hT
  have HLt : Hid (∀ x ∈ l, x < 256) := h.lt
  clear h hN hfin hT
  
  obtain ⟨s, hs⟩ : ∃ V, tvS l 0 = V := ⟨_, rfl⟩
  obtain ⟨a1, ha1⟩ : ∃ a1, taA l 0 = a1 := ⟨_, rfl⟩
  obtain ⟨e1, he1⟩ : ∃ e1, ndE (okT l 0) 0 = e1 := ⟨_, rfl⟩
  rw [ha1, he1] at HFn
  
  obtain ⟨n, hn⟩ : ∃ n, rvV l a1 4 = n := ⟨_, rfl⟩
  obtain ⟨a2, ha2⟩ : ∃ a2, raA l a1 4 = a2 := ⟨_, rfl⟩
  obtain ⟨e2, he2⟩ : ∃ e2, ndE (okR l a1 4) e1 = e2 := ⟨_, rfl⟩
  rw [hn, ha2, he2] at HFn
  have hn16 : n < 4294967296 := by rw [← hn]; exact rvV_lt2 _ _ _ _ HLt.out (by decide) (by decide)
  obtain ⟨m, hm⟩ : ∃ m, cnV n 16 e2 = m := ⟨_, rfl⟩
  obtain ⟨e3, he3⟩ : ∃ e3, cnE n 16 e2 = e3 := ⟨_, rfl⟩
  rw [hm, he3] at HFn
  
  have hm64 : m ≤ 16 := by rw [← hm]; exact cnV_let _ _ _
  have HV : Hid (tvS l 0 = s ∧ taA l 0 = a1 ∧ ndE (okT l 0) 0 = e1) := ⟨hs, ha1, he1⟩
  have HV2 : Hid (rvV l a1 4 = n ∧ raA l a1 4 = a2 ∧ ndE (okR l a1 4) e1 = e2) := ⟨hn, ha2, he2⟩
  have HV3 : Hid (cnV n 16 e2 = m ∧ cnE n 16 e2 = e3) := ⟨hm, he3⟩
  have hwn : IntKind.u32.wrap (n : Int) = (n : Int) := by rw [IntKind.wrap_u32]; omega
  clear hs ha1 he1 hn ha2 he2 hm he3
  go_enter Tryz.func12, Tryz.ntmps12
  go_wp2_with fail
  have hx := mkb1 w #[.string ⟨#[]⟩, .slice none 0 0] 46
  generalize w.alloc (Obj.cells #[.string ⟨#[]⟩, .slice none 0 0] 46) = W0 at *
  refine (HUp.out _ hx.bel).mono ?_
  rintro e W1 ⟨c, r, ao', cap', rfl, hbd⟩
  have HX : Hid (Bx1 w W0 #[.string ⟨#[]⟩, .slice none 0 0] 46) := hx
  have HT0 : Hid (Tabs W0) := HT.out.later hx.bel
  have H1 : Hid (Bg W0 W1 c r ao' cap' l 0 0) := hbd
  clear hx hbd HUp HT
  go_wp2_with fail
  have hc1 := btextG H1.out (HT0.out.later H1.out.bel)
  rw [HV.out.1, HV.out.2.1, HV.out.2.2] at hc1
  refine hc1.mono ?_
  rintro e W2 ⟨rfl, hbd, _⟩
  have H2 : Hid (Bg W0 W2 c r ao' cap' l a1 e1) := hbd
  clear hbd H1 hc1
  go_wp2_with fail
  have hU : Ug W0 (W2.alloc (Obj.cells #[.string s, .slice none 0 0] 46)) c r ao' cap' l a1 e1 W2.heap.size (.string s) 46 (.slice none 0 0) 9 1 0 [] := ⟨H2.out.later (below1 W2 _), heap_new W2 _, World.ownsRow_nil _ _ _ _, H2.out.bel.size, by decide⟩
  generalize W2.alloc (Obj.cells #[.string s, .slice none 0 0] 46) = W3 at *
  generalize W2.heap.size = ge at *
  have HU3 : Hid _ := hU
  clear hU H2
  have hc2 := bu32G HU3.out.bd
  rw [HV2.out.1, HV2.out.2.1, HV2.out.2.2] at hc2
  refine hc2.mono ?_
  rintro e W4 ⟨rfl, hbd, hk4⟩
  have HU4 : Hid (Ug W0 W4 c r ao' cap' l a2 e2 ge (.string s) 46 (.slice none 0 0) 9 1 0 []) := HU3.out.keep hbd hk4
  clear hbd hk4 HU3 hc2
  go_wp2_with fail
  have hc3 := countG n 16 (by omega) (by decide) HU4.out.bd
  rw [HV3.out.1, HV3.out.2] at hc3
  refine hc3.mono ?_
  rintro e W5 ⟨rfl, hbd, hk5⟩
  have HU5 : Hid (Ug W0 W5 c r ao' cap' l a2 e3 ge (.string s) 46 (.slice none 0 0) 9 1 0 []) := HU4.out.keep hbd hk5
  clear hbd hk5 HU4 hc3
  go_wp2_with fail
  go_loopw [15] (fun iv wr => ∃ (k : Nat) (vo : Option Addr) (vc : Nat), k ≤ m ∧ iv = .int .i64 (k : Nat) ∧ Hid (Ug W0 wr c r ao' cap' l (tA l a2 k) (tE l a2 e3 k) ge (.string s) 46 (.slice vo k vc) 9 1 k ((tV l a2 k).map (fun x : ByteArray => Value.string x)))) (fun iv _ => m - (intOf iv).toNat)
  case atStart => exact ⟨0, none, 0, Nat.zero_le _, rfl, HU5.out⟩
  case round =>
    obtain ⟨k, vo, vc, hk, rfl, HU⟩ := hrel
    by_cases hlt : k < m
    · have HN1 : Hid (∀ W, Below wr.heap.size wr W → Calls Tryz.prog 43 #[.pointer (some ⟨c, 0, none⟩)] W fun e W6 => e = .returned (.string (tvS l (tA l a2 k))) ∧ W6.cell? ⟨ge, 1, none⟩ = some (.slice vo k vc) ∧ (∀ o, (W6.alloc o).cell? ⟨ge, 1, none⟩ = some (.slice vo k vc)) ∧ Hid (Ug W0 W6 c r ao' cap' l (tA l a2 (k + 1)) (tE l a2 e3 (k + 1)) ge (.string s) 46 (.slice vo k vc) 9 1 k ((tV l a2 k).map (fun x : ByteArray => Value.string x)))) := fun W hW => by
        have hU := HU.out.later hW
        refine (btextG hU.bd (HT0.out.later hU.bd.bel)).mono ?_
        rintro e W6 ⟨rfl, hb, hk6⟩
        have h6 := hU.keep hb hk6
        exact ⟨rfl, h6.c1, fun o => (h6.later (below1 W6 o)).c1, h6⟩
      have b5 : wr.cell? ⟨ge, 1, none⟩ = some (.slice vo k vc) := HU.out.c1
      have HB0 : Hid (Below wr.heap.size wr wr.drew) := below_drewN wr 1
      have HV9 : Hid ((tV l a2 (k + 1)).map (fun x : ByteArray => Value.string x) = (tV l a2 k).map (fun x : ByteArray => Value.string x) ++ [.string (tvS l (tA l a2 k))]) := by show _ = _; simp [tV]
      obtain ⟨x, hx⟩ : ∃ x, tvS l (tA l a2 k) = x := ⟨_, rfl⟩
      rw [hx] at HN1 HV9
      have K1 : Hid True := trivial
      clear hx
      go_wp2
      go_region_law (first | (go_simp; go_at_call 43; have hk1 := K1; clear hk1 K1; refine Calls.mono (HN1.out _ HB0.out) ?_; rintro e W7 ⟨rfl, m7, m7a, HU7⟩; dsimp only) | (refine step_append_lies _ (by rfl) _ _ 44 (by rfl) W0.heap.size 9 i0 (.string ⟨#[]⟩) 1 16 Tryz.underlying44 hi hz0 hz1 hz2 rfl (by decide) (.slice vo k vc) k ((tV l a2 k).map (fun x : ByteArray => Value.string x)) (by rfl) HU7.out.rowA ⟨W7.heap.size, 0, none⟩ 1 1 [.string (x)] (by rfl) rfl (World.news_of_block (heap_alloc_new W7 _)) (by simp [Value.oneCell']) (by decide) (by unfold maxLen; omega) (by omega) HU7.out.szA _ rfl ?_; intro g8 cp8 W8 ho8 hg8 _ _; have hgr := HU7.out.growB hg8; have z1 : W8.cell? ⟨ge, 1, none⟩ = some (.slice vo k vc) := (blk_at hgr 1).trans rfl; have zf : W8.frozen? ⟨ge, 1, none⟩ = false := blk_free hgr 1; have HU8 : Hid _ := HU7.out.grow ho8 hg8; clear ho8 hg8 hgr))
      all_goals go_wp2
      all_goals go_roundw
      all_goals first
        | exact ⟨k + 1, some ⟨g8, 0, none⟩, cp8, by omega, by go_num, by rw [HV9.out]; exact HU8.out⟩
        | (simp [intOf]; omega)
    · obtain rfl : k = m := by omega
      have y0 := HU.out.c0
      have y1 := HU.out.c1
      go_wp2_with fail
      refine (wholeQ_no s vo k vc z hz HU.out.bd HFn.out).mono ?_
      rintro e W9 ⟨rfl, hb9, hk9⟩
      have HY : Hid (Below w.heap.size w W9 ∧ W9.heap[w.heap.size]? = some (.cells #[.string ⟨#[]⟩, .slice none 0 0] 46 (0, 0))) := ⟨HX.out.bel.trans (hb9.mono HX.out.bel.size), by rw [hb9.block _ (by have := HX.out.size; omega)]; exact HX.out.a⟩
      have HR9 : Hid (W9.ownsRow W0.heap.size 9 1 (.slice vo k vc) k ((tV l a2 k).map (fun x : ByteArray => Value.string x))) := owns_sameU HU.out.row (fun g hg => hk9.block g (owns_typeU HU.out.row g hg).2.2 (fun e => HU.out.nr.2.2.2.1 (e ▸ hg)))
      have za0 : W9.cell? ⟨w.heap.size, 0, none⟩ = some (.string ⟨#[]⟩) := by rw [blk_at HY.out.2]; rfl
      have za1 : W9.cell? ⟨w.heap.size, 1, none⟩ = some (.slice none 0 0) := by rw [blk_at HY.out.2]; rfl
      have ya0 : W9.frozen? ⟨w.heap.size, 0, none⟩ = false := blk_free HY.out.2 0
      have ya1 : W9.frozen? ⟨w.heap.size, 1, none⟩ = false := blk_free HY.out.2 1
      clear hb9 hk9 y0 y1 HU HU5
      go_wp2
      obtain ⟨hp, hq⟩ := putc2 HY.out.2 (.string ⟨#[]⟩) (.slice none 0 0)
      have hs0 : w.heap.size < W0.heap.size := by have := HX.out.size; omega
      exact bodyPost_ret (results_cell_tmp1 rfl _ _ w.heap.size 46 _ (0, 0) _ rfl hp Tryz.underlying46 rfl infoQ) rfl ⟨rfl, HY.out.1.trans (hq.below HY.out.1.size (fun g hg => by omega))⟩
end Go.Proofs.YtfifaaopdhcaaaaGreatDoor
