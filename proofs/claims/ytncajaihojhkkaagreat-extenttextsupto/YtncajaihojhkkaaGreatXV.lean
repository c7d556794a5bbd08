import Derived.Test.YtncajaihojhkkaaGreatXU
import Derived.Test.YtncajaihojhkkaaGreatXEB
namespace Go.Proofs.YtncajaihojhkkaaGreat.B
open Go.RowKit Go.Sort Go.Lib
set_option linter.unusedVariables false
set_option linter.unusedSimpArgs false
set_option maxRecDepth 100000

def clamp (p : Int × Int) : Int × Int := (max p.1 0, min p.2 1099511627776)
def clamps (l : List (Int × Int)) : List (Int × Int) := (l.map clamp).filter (fun p => decide (p.1 < p.2))
theorem clamps_snoc (l : List (Int × Int)) (p : Int × Int) : clamps (l ++ [p]) = if (clamp p).1 < (clamp p).2 then clamps l ++ [clamp p] else clamps l := by
  unfold clamps
  rw [List.map_append, List.filter_append]
  by_cases h : (clamp p).1 < (clamp p).2
  · simp [h]
  · simp [h]
theorem clamps_ok {l : List (Int × Int)} {p : Int × Int} (h : p ∈ clamps l) : 0 ≤ p.1 ∧ p.1 < p.2 ∧ p.2 ≤ 1099511627776 := by
  unfold clamps at h
  rw [List.mem_filter] at h
  obtain ⟨h1, h2⟩ := h
  obtain ⟨q, _, rfl⟩ := List.mem_map.1 h1
  simp only [decide_eq_true_eq] at h2
  simp only [clamp] at h2 ⊢
  omega
theorem clamps_length (l : List (Int × Int)) : (clamps l).length ≤ l.length := by
  unfold clamps
  exact Nat.le_trans (List.length_filter_le _ _) (by simp)

theorem news2h (W : World) (H : Nat) (hH : W.heap.size = H) (a b : Value) : ∀ j u, [a, b][j]? = some u → (W.alloc (.cells #[a, b] TRng)).cell? ((⟨H, 0, none⟩ : Addr).add j) = some u := by
  subst hH; exact news2 W a b
set_option maxHeartbeats 8000000 in
/-- the loop and the sort of rising -/
theorem rising_any (ao : Option Addr) (cap n : Nat) (l : List (Int × Int)) (w : World) (hl : Hid (n = l.length)) (hn : n ≤ 8796093022207) (HR : Hid (∀ k p, l[k]? = some p → ∃ b off, ao = some ⟨b, off, none⟩ ∧ w.cell? ⟨b, off + k * 2, none⟩ = some (.int .i64 p.1) ∧ w.cell? ⟨b, off + k * 2 + 1, none⟩ = some (.int .i64 p.2))) :
    Calls Tryz.prog 46 #[.slice ao n cap] w fun e w' => ∃ (l' : List (Int × Int)) (ao' : Option Addr) (c' : Nat), e = .returned (.slice ao' l'.length c') ∧ l'.Perm (clamps l) ∧ SortedLo l' ∧ (l' ≠ [] → ∃ g, ao' = some ⟨g, 0, none⟩ ∧ w.heap.size ≤ g ∧ g < w'.heap.size ∧ PRow w' g 0 l') ∧ Below w.heap.size w w' := by
  obtain ⟨i0, hi, hz0, hz1, hz2⟩ := info_parts infoRng
  go_enter Tryz.func46, Tryz.ntmps46
  go_wp2
  go_loopw [3, 8] (fun v i wr => ∃ (k : Nat), k ≤ n ∧ i = .int .i64 k ∧ wr.ownsRow w.heap.size TRng 2 v (clamps (l.take k)).length (pcells (clamps (l.take k))) ∧ Below w.heap.size w wr) (fun _ i _ => n - (intOf i).toNat)
  case atStart => exact ⟨0, Nat.zero_le _, rfl, World.ownsRow_nil _ _ _ _, Below.refl _ _⟩
  case round =>
    obtain ⟨k, hk, rfl, hown, hb⟩ := hrel
    by_cases hlt : k < n
    · obtain ⟨p, hpk⟩ : ∃ p, l[k]? = some p := ⟨_, List.getElem?_eq_getElem (by have := hl.out; omega)⟩
      obtain ⟨b, off, rfl, d0, d1⟩ := HR.out k p hpk
      have c0 := cell_later hb d0
      have c1 := cell_later hb d1
      have HT : Hid (l.take (k + 1) = l.take k ++ [p]) := by
        show _ = _
        rw [List.take_add_one, hpk]; rfl
      have hkz : (k : Int) < (n : Int) := by omega
      have hcl : Hid ((clamps (l.take k)).length ≤ k) := by
        have h1 := clamps_length (l.take k)
        rw [List.length_take] at h1
        show _ ≤ _
        omega
      clear d0 d1
      have HS := clamps_snoc (l.take k) p
      rw [← HT.out] at HS
      by_cases hc : max p.1 0 < min p.2 1099511627776
      · have HE : Hid (clamps (l.take (k + 1)) = clamps (l.take k) ++ [(max p.1 0, min p.2 1099511627776)]) := by
          show _ = _
          rw [HS, if_pos (show (clamp p).1 < (clamp p).2 from hc)]; rfl
        have hcl2 := hcl.out
        obtain ⟨m, hm⟩ : ∃ m, m = (clamps (l.take k)).length := ⟨_, rfl⟩
        rw [← hm] at hown hcl2
        have HM : Hid (m = (clamps (l.take k)).length) := hm
        obtain ⟨xs, hxs⟩ : ∃ xs, xs = pcells (clamps (l.take k)) := ⟨_, rfl⟩
        rw [← hxs] at hown
        have HXS : Hid (xs = pcells (clamps (l.take k))) := hxs
        clear hm HS hxs
        obtain ⟨ao2, cp, rfl⟩ := owns_form hown
        have HO : Hid (wr.ownsRow w.heap.size TRng 2 (.slice ao2 m cp) m xs) := hown
        clear hown
        go_wp2_with (at_builtin; refine wpList_append_own _ rfl (.tmp 25) (.tmp 27) TRngs rfl w.heap.size TRng i0 _ 2 16 Tryz.underlying60 hi hz0 hz1 hz2 rfl (by decide) _ m xs rfl (((HO.out).alloc _).alloc _) ⟨wr.heap.size + 1, 0, none⟩ 1 1 [.int .i64 (max p.1 0), .int .i64 (min p.2 1099511627776)] rfl rfl (news2h _ _ (by simp) _ _) (by simp [Value.oneCell']) (by unfold maxLen; omega) (by omega) (by have := hb.size; simp; omega) ?_)
        intro v' w1 hown' hgrow _
        obtain ⟨ao', cp', rfl⟩ := owns_form hown'
        have H2 : Hid (w1.ownsRow w.heap.size TRng 2 (.slice ao' (m + 1) cp') (clamps (l.take (k + 1))).length (pcells (clamps (l.take (k + 1))))) := by
          show World.ownsRow _ _ _ _ _ _ _
          rw [HE.out, pcells_append, List.length_append, ← HM.out, ← HXS.out]
          exact hown'
        have hb1 : Below w.heap.size w w1 := ((hb.alloc hb.size _).alloc (by have := hb.size; simp; omega) _).grown hgrow (by have := hb.size; simp; omega) (fun b' hb' => ((HO.out).lt b' hb').1)
        clear hown' hgrow
        go_wp2
        go_roundw
        case rel => exact ⟨k + 1, by omega, by go_num, H2.out, hb1⟩
        case measure => simp [intOf]; omega
      · have HE : Hid (clamps (l.take (k + 1)) = clamps (l.take k)) := by
          show _ = _
          rw [HS, if_neg (show ¬ (clamp p).1 < (clamp p).2 from hc)]
        obtain ⟨ao2, cp, rfl⟩ := owns_form hown
        have H2 : Hid ((wr.alloc (.cells #[.int .i64 (max p.1 0), .int .i64 (min p.2 1099511627776)] TRng)).ownsRow w.heap.size TRng 2 (.slice ao2 (clamps (l.take k)).length cp) (clamps (l.take (k + 1))).length (pcells (clamps (l.take (k + 1))))) := by
          show World.ownsRow _ _ _ _ _ _ _
          rw [HE.out]; exact hown.alloc _
        have hc' : min p.2 1099511627776 ≤ max p.1 0 := by omega
        clear hown HS
        go_wp2
        go_roundw
        case rel => exact ⟨k + 1, by omega, by go_num, H2.out, hb.alloc hb.size _⟩
        case measure => simp [intOf]; omega
    · have e : k = n := by omega
      subst e
      rw [show l.take k = l by rw [hl.out, List.take_length]] at hown
      obtain ⟨cs, hcs⟩ : ∃ cs, cs = clamps l := ⟨_, rfl⟩
      have HCS : Hid (cs = clamps l) := hcs
      rw [← hcs] at hown
      clear hcs
      have hcl : cs.length ≤ k := by rw [HCS.out, hl.out]; exact clamps_length l
      by_cases hnil : cs = []
      · subst hnil
        obtain ⟨ao2, cp, rfl⟩ := owns_form hown
        have hS : ∀ (fv : Value) (W : World), Calls Tryz.prog 61 #[.slice ao2 0 cp, fv] W fun e w' => e = .returned (.tuple #[]) ∧ w' = W := fun fv W => AnyF.slices_SortFunc_none { Tryz.sortR with } ao2 cp fv W
        simp only [List.length_nil] at hown ⊢
        clear hown
        go_wp2_with (go_at_call 61; refine (hS _ _).mono ?_; rintro e w9 ⟨rfl, hw9⟩; rw [hw9]; clear hw9)
        go_ret
        refine ⟨[], ao2, cp, rfl, by rw [← HCS.out], fun i j p q hi => by simp at hi, fun h => absurd rfl h, hb⟩
      · obtain ⟨g, cp, rfl, hg1, hg2⟩ := owns_some hown (List.length_pos_iff.2 hnil)
        have hS := sortfunc_any hown (by omega)
        obtain ⟨m, hm⟩ : ∃ m, m = cs.length := ⟨_, rfl⟩
        rw [← hm] at hS
        rw [← hm]
        have HM : Hid (m = cs.length) := hm
        clear hown hm
        go_wp2_with (go_at_call 61; refine hS.mono ?_; rintro e w9 ⟨rfl, l', hperm, hsorted, hrow, hsz, hos, htp, hout, hblk⟩)
        go_ret
        have hlen : l'.length = m := by rw [HM.out]; exact hperm.length_eq
        refine ⟨l', some ⟨g, 0, none⟩, cp, by rw [hlen]; rfl, by rw [← HCS.out]; exact hperm, hsorted, fun _ => ⟨g, rfl, hg1, by omega, hrow⟩, ?_⟩
        exact ⟨hos.trans hb.os, htp.trans hb.tape, hout.trans hb.output, Nat.le_trans hb.size hsz, fun i hi => (hblk i (Nat.lt_of_lt_of_le hi hb.size) (by omega)).trans (hb.block i hi)⟩

theorem below_kept {B : Nat} {w W W' : World} {bm : Nat} {v v' : Value} (h : Below B w W) (k : KeptM W W' bm v v') (hB : B ≤ W.heap.size) (hbm : B ≤ bm) (hv : ∀ g, v.ownBlock = some g → B ≤ g) : Below B w W' :=
  ⟨k.os.trans h.os, k.tape.trans h.tape, k.output.trans h.output, Nat.le_trans h.size k.size, fun i hi => (k.block i (by omega) (by omega) (fun e => by have := hv i e; omega)).trans (h.block i hi)⟩
/-- the runs of a map in which ranges were made true one behind the other -/
def runsOf (l : List (Int × Int)) : List (Rn Bool) := l.foldl (fun rs p => lay 1099511627776 rs ⟨p.1, p.2, true⟩) [⟨0, 1099511627776, false⟩]
theorem runsOf_snoc (l : List (Int × Int)) (p : Int × Int) : runsOf (l ++ [p]) = lay 1099511627776 (runsOf l) ⟨p.1, p.2, true⟩ := by simp [runsOf]

set_option maxHeartbeats 8000000 in
theorem setOf_by (Good : List (Rn Bool) → (Int × Int) → Prop)
    (HSet : Hid (∀ (W : World) (B bm : Nat) (v : Value) (rs : List (Rn Bool)) (p : Int × Int), MO W B bm v 1099511627776 rs → Good rs p → 0 ≤ p.1 → p.1 < p.2 → p.2 ≤ 1099511627776 → Calls Tryz.prog 47 #[.pointer (some ⟨bm, 0, none⟩), .int .i64 p.1, .int .i64 p.2, .bool true] W fun e w' => e = .returned (.int .i64 0) ∧ SetTo W B bm v 1099511627776 (lay 1099511627776 rs ⟨p.1, p.2, true⟩) w'))
    (ao : Option Addr) (cap n : Nat) (l : List (Int × Int)) (w : World) (hl : Hid (n = l.length)) (hn : n ≤ 8796093022207) (HR : Hid (∀ k p, l[k]? = some p → ∃ b off, ao = some ⟨b, off, none⟩ ∧ w.cell? ⟨b, off + k * 2, none⟩ = some (.int .i64 p.1) ∧ w.cell? ⟨b, off + k * 2 + 1, none⟩ = some (.int .i64 p.2)))
    (HG : Hid (∀ l', l'.Perm (clamps l) → SortedLo l' → ∀ k p, l'[k]? = some p → Good (runsOf (l'.take k)) p)) :
    Calls Tryz.prog 34 #[.slice ao n cap] w fun e w' => ∃ l' bm v, e = .returned (.pointer (some ⟨bm, 0, none⟩)) ∧ l'.Perm (clamps l) ∧ SortedLo l' ∧ MO w' w.heap.size bm v 1099511627776 (runsOf l') ∧ Below w.heap.size w w' := by
  have HN : Hid (Calls Tryz.prog 45 #[.int .i64 1099511627776, .bool false] w fun e w' => ∃ bm vv, e = .returned (.tuple #[.pointer (some ⟨bm, 0, none⟩), .int .i64 0]) ∧ MO w' w.heap.size bm vv 1099511627776 (joined [⟨0, 1099511627776, false⟩]) ∧ Below w.heap.size w w') := new_any 1099511627776 false w (by decide) (by decide)
  have hj : Hid (joined [(⟨0, 1099511627776, false⟩ : Rn Bool)] = runsOf []) := rfl
  go_enter Tryz.func34, Tryz.ntmps34
  go_wp2_with (go_at_call 45; refine HN.out.mono ?_; rintro e w1 ⟨bm, vv, rfl, hMO, hb1⟩)
  have HR1 : Hid (∀ k p, l[k]? = some p → ∃ b off, ao = some ⟨b, off, none⟩ ∧ w1.cell? ⟨b, off + k * 2, none⟩ = some (.int .i64 p.1) ∧ w1.cell? ⟨b, off + k * 2 + 1, none⟩ = some (.int .i64 p.2)) := fun k p hk => by
    obtain ⟨b, off, e, h1, h2⟩ := HR.out k p hk
    exact ⟨b, off, e, cell_later hb1 h1, cell_later hb1 h2⟩
  have HMO : Hid (MO w1 w.heap.size bm vv 1099511627776 (runsOf [])) := hMO
  clear hMO
  go_wp2_with (go_at_call 46; refine (rising_any ao cap n l _ hl hn HR1).mono ?_; rintro e w2 ⟨l', ao', c', rfl, hperm, hsort, hrow, hb2⟩)
  have hgx : ∃ g, l' ≠ [] → (ao' = some ⟨g, 0, none⟩ ∧ w1.heap.size ≤ g ∧ g < w2.heap.size ∧ PRow w2 g 0 l') := by
    by_cases h : l' = []
    · exact ⟨0, fun h' => absurd h h'⟩
    · obtain ⟨g, hg⟩ := hrow h
      exact ⟨g, fun _ => hg⟩
  obtain ⟨g, hg0⟩ := hgx
  have HG0 : Hid (l' ≠ [] → (ao' = some ⟨g, 0, none⟩ ∧ w1.heap.size ≤ g ∧ g < w2.heap.size ∧ PRow w2 g 0 l')) := hg0
  have HP : Hid (l'.Perm (clamps l) ∧ SortedLo l') := ⟨hperm, hsort⟩
  have HB1 : Hid (Below w.heap.size w w1) := hb1
  have HB2 : Hid (Below w1.heap.size w1 w2) := hb2
  obtain ⟨m, hm⟩ : ∃ m, l'.length = m := ⟨_, rfl⟩
  rw [hm]
  have HM : Hid (l'.length = m) := hm
  clear hm hrow hg0 hperm hsort hb1 hb2
  have hmn : m ≤ 8796093022207 := by
    have h1 := HP.out.1.length_eq
    have h2 := clamps_length l
    have := HM.out
    have := hl.out
    omega
  go_loopw [14] (fun i wr => ∃ (k : Nat) (v : Value), k ≤ m ∧ i = .int .i64 k ∧ Hid (MO wr w.heap.size bm v 1099511627776 (runsOf (l'.take k))) ∧ Hid (Below w.heap.size w wr) ∧ Hid (l' ≠ [] → PRow wr g 0 l' ∧ v.ownBlock ≠ some g ∧ g < wr.heap.size)) (fun i _ => m - (intOf i).toNat)
  case atStart =>
    refine ⟨0, vv, Nat.zero_le _, rfl, HMO.out.later HB2.out, HB1.out.trans (HB2.out.mono HB1.out.size), fun hne => ?_⟩
    obtain ⟨h1, h2, h3, h4⟩ := HG0.out hne
    exact ⟨h4, fun e => by have := (HMO.out.row.lt g e).2; omega, h3⟩
  case round =>
    obtain ⟨k, v, hk, rfl, HMOk, HBk, HRk⟩ := hrel
    by_cases hlt : k < m
    · obtain ⟨p, hpk⟩ : ∃ p, l'[k]? = some p := ⟨_, List.getElem?_eq_getElem (by have := HM.out; omega)⟩
      have hne : l' ≠ [] := by rintro rfl; simp at hpk
      obtain ⟨rfl, hg1, hg2, _⟩ := HG0.out hne
      obtain ⟨hrow, hvg, hgl⟩ := HRk.out hne
      obtain ⟨c0, c1⟩ := hrow k p hpk
      rw [Nat.zero_add] at c0 c1
      have hgood := HG.out l' HP.out.1 HP.out.2 k p hpk
      obtain ⟨o1, o2, o3⟩ := clamps_ok (HP.out.1.mem_iff.1 (List.mem_of_getElem? hpk))
      have hbm : bm < w1.heap.size := HMO.out.ltm
      have HS := HSet.out (wr.alloc (.cells #[.int .i64 p.1, .int .i64 p.2] TRng)) w.heap.size bm v (runsOf (l'.take k)) p (HMOk.out.later ((Below.refl _ wr).alloc (Nat.le_refl _) _)) hgood o1 o2 o3
      have HT : Hid (l'.take (k + 1) = l'.take k ++ [p]) := by
        show _ = _
        rw [List.take_add_one, hpk]; rfl
      have HRR : Hid (∀ w9 v', KeptM (wr.alloc (.cells #[.int .i64 p.1, .int .i64 p.2] TRng)) w9 bm v v' → PRow w9 g 0 l' ∧ v'.ownBlock ≠ some g ∧ g < w9.heap.size) := fun w9 v' hK => by
        have hsz : (wr.alloc (.cells #[.int .i64 p.1, .int .i64 p.2] TRng)).heap.size = wr.heap.size + 1 := World.size_alloc wr _
        have hblk : w9.heap[g]? = wr.heap[g]? := (hK.block g (by omega) (by omega) hvg).trans (Below.heap_alloc wr _ g hgl)
        refine ⟨fun k p hk => ?_, ?_, by have := hK.size; omega⟩
        · obtain ⟨a1, a2⟩ := hrow k p hk
          exact ⟨(World.cell?_of_block (a := ⟨g, 0 + k * 2, none⟩) hblk).trans a1, (World.cell?_of_block (a := ⟨g, 0 + k * 2 + 1, none⟩) hblk).trans a2⟩
        · rcases hK.fresh with e | e
          · rw [e]; exact hvg
          · intro e'; have := e g e'; omega
      have HBB : Hid (∀ w9 v', KeptM (wr.alloc (.cells #[.int .i64 p.1, .int .i64 p.2] TRng)) w9 bm v v' → Below w.heap.size w w9) := fun w9 v' hK =>
        below_kept (HBk.out.alloc HBk.out.size _) hK (by have := HBk.out.size; simp; omega) HMOk.out.base (fun g' hg' => (HMOk.out.row.lt g' hg').1)
      have hkz : (k : Int) < (m : Int) := by omega
      clear hrow hvg hgood hpk o1 o2 o3
      go_wp2_with (go_at_call 47; refine HS.mono ?_; rintro e w9 ⟨rfl, v', hMO', hK⟩)
      go_roundw
      case rel => exact ⟨k + 1, v', by omega, by go_num, by rw [HT.out, runsOf_snoc]; exact hMO', HBB.out _ _ hK, fun _ => HRR.out _ _ hK⟩
      case measure => simp [intOf]; omega
    · have e : k = m := by omega
      subst e
      have HE : Hid (l'.take k = l') := by
        show _ = _
        rw [← HM.out, List.take_length]
      rw [HE.out] at HMOk
      go_wp2
      go_ret
      exact ⟨l', bm, v, rfl, HP.out.1, HP.out.2, HMOk.out, HBk.out⟩

/-- what Normal, Union and their like answer of a map -/
theorem normal_by (Good : List (Rn Bool) → (Int × Int) → Prop)
    (HSet : Hid (∀ (W : World) (B bm : Nat) (v : Value) (rs : List (Rn Bool)) (p : Int × Int), MO W B bm v 1099511627776 rs → Good rs p → 0 ≤ p.1 → p.1 < p.2 → p.2 ≤ 1099511627776 → Calls Tryz.prog 47 #[.pointer (some ⟨bm, 0, none⟩), .int .i64 p.1, .int .i64 p.2, .bool true] W fun e w' => e = .returned (.int .i64 0) ∧ SetTo W B bm v 1099511627776 (lay 1099511627776 rs ⟨p.1, p.2, true⟩) w'))
    (ao : Option Addr) (cap n : Nat) (l : List (Int × Int)) (w : World) (hl : Hid (n = l.length)) (hn : n ≤ 8796093022207) (HR : Hid (∀ k p, l[k]? = some p → ∃ b off, ao = some ⟨b, off, none⟩ ∧ w.cell? ⟨b, off + k * 2, none⟩ = some (.int .i64 p.1) ∧ w.cell? ⟨b, off + k * 2 + 1, none⟩ = some (.int .i64 p.2)))
    (HG : Hid (∀ l', l'.Perm (clamps l) → SortedLo l' → ∀ k p, l'[k]? = some p → Good (runsOf (l'.take k)) p)) :
    Calls Tryz.prog 20 #[.slice ao n cap] w fun e w' => ∃ l' v, e = .returned v ∧ l'.Perm (clamps l) ∧ SortedLo l' ∧ w'.ownsRow w.heap.size TRng 2 v (lst (runsOf l')).length (pcells (lst (runsOf l'))) ∧ Below w.heap.size w w' := by
  have HS := setOf_by Good HSet ao cap n l w hl hn HR HG
  clear HSet HG HR
  go_enter Tryz.func20, Tryz.ntmps20
  go_wp2_with (go_at_call 34; refine HS.mono ?_; rintro e w1 ⟨l', bm, v, rfl, hperm, hsort, hMO, hb1⟩)
  go_wp2_with (go_at_call 33; refine (listed_any hMO (by decide)).mono ?_; rintro e w2 ⟨v2, rfl, ho, hb2⟩)
  go_ret
  exact ⟨l', v2, rfl, hperm, hsort, owns_mono ho hb1.size, hb1.trans (hb2.mono hb1.size)⟩
end Go.Proofs.YtncajaihojhkkaaGreat.B
