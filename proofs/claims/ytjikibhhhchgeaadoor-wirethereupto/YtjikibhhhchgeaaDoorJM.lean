import Derived.Test.YtjikibhhhchgeaaDoorJG
import Derived.Deep.RegionLaw
namespace Go.Proofs.YtjikibhhhchgeaaDoor
open Go.RowKit
set_option linter.unusedVariables false
set_option linter.unusedSimpArgs false
set_option maxRecDepth 100000

abbrev TFd : TypeId := 161
/-- fields in memory, and the bytes that they are -/
def fcells (F : List (Nat × Nat)) : List Value := F.flatMap fun x => [.int .u64 (x.1 : Int), .int .i64 (x.2 : Int)]
def layF (F : List (Nat × Nat)) : List Nat := F.flatMap fun x => bigTo x.1 x.2 x.2
theorem layF_snoc (F : List (Nat × Nat)) (x : Nat × Nat) : layF (F ++ [x]) = layF F ++ bigTo x.1 x.2 x.2 := by simp [layF]
theorem layF_lt (F : List (Nat × Nat)) : ∀ x ∈ layF F, x < 256 := by
  intro x hx
  obtain ⟨y, _, hy⟩ := List.mem_flatMap.1 hx
  exact bigTo_lt _ _ _ x hy
theorem layF_len (F : List (Nat × Nat)) (h : ∀ x ∈ F, x.2 ≤ 8) : (layF F).length ≤ 8 * F.length := by
  induction F with
  | nil => simp [layF]
  | cons y F ih =>
    have h1 := h y (.head _)
    have h2 := ih (fun x hx => h x (.tail _ hx))
    simp only [layF, List.flatMap_cons, List.length_append, bigTo_length, List.length_cons] at h2 ⊢
    omega
theorem fcells_at : ∀ (F : List (Nat × Nat)) (k : Nat) (x : Nat × Nat), F[k]? = some x → (fcells F)[k * 2]? = some (.int .u64 (x.1 : Int)) ∧ (fcells F)[k * 2 + 1]? = some (.int .i64 (x.2 : Int))
  | [], k, x, h => by simp at h
  | y :: F, 0, x, h => by simp at h; subst h; exact ⟨rfl, rfl⟩
  | y :: F, k + 1, x, h => by
    have := fcells_at F k x (by simpa using h)
    rw [show (k + 1) * 2 = k * 2 + 1 + 1 by omega]
    exact this
theorem own_news {w : World} {B g n : Nat} {l : List Nat} (h : w.ownsRow B 5 1 (.slice (some ⟨g, 0, none⟩) n n) n (l.map bv)) : ∀ j u, (l.map bv)[j]? = some u → w.cell? ((⟨g, 0, none⟩ : Addr).add j) = some u := by
  intro j u hu
  have hj : j < n := by
    have h1 := (List.getElem?_eq_some_iff.1 hu).1
    have := h.1
    simp at this h1; omega
  rw [add_plain, Nat.zero_add, h.cellAt j (by omega), hu]
set_option maxHeartbeats 8000000 in
theorem lay_ok (F : List (Nat × Nat)) (g k0 : Nat) (ao : Option Addr) (cap : Nat) (d : List Nat) (w : World) (hF : w.heap[g]? = some (.cells (fcells F).toArray TFd (0, 0))) (hk0 : F.length = k0) (h8 : ∀ x ∈ F, x.1 < 18446744073709551616 ∧ 1 ≤ x.2 ∧ x.2 ≤ 8) (hk : k0 ≤ 10) (hd : BRow w ao cap d) (hn : d.length ≤ 1099511627776) :
    Calls Tryd.prog 88 #[.slice (some ⟨g, 0, none⟩) k0 k0, .slice ao d.length cap] w fun e w' => ∃ ao' cap', e = .returned (.slice ao' (layF F ++ d).length cap') ∧ Row w w' ao' cap' (layF F ++ d) := by
  obtain ⟨i0, hi, hz0, hz1, hz2⟩ := info_parts Tryd.info5
  have HD : Hid (BRow w ao cap d) := hd
  have HF : Hid (w.heap[g]? = some (.cells (fcells F).toArray TFd (0, 0))) := hF
  have H8 : Hid (∀ x ∈ F, x.1 < 18446744073709551616 ∧ 1 ≤ x.2 ∧ x.2 ≤ 8) := h8
  have HK : Hid (F.length = k0) := hk0
  have HLn : Hid (∀ k, (layF (F.take k)).length ≤ 80) := fun k => by
    have := layF_len (F.take k) (fun x hx => (H8.out x (List.mem_of_mem_take hx)).2.2)
    rw [List.length_take] at this
    omega
  clear hd hF h8 hk0
  go_enter Tryd.func88, Tryd.ntmps88
  go_wp2
  go_loopw [5, 6] (fun v i wr => ∃ k n ao' cap' : _, i = .int .i64 (k : Nat) ∧ k ≤ k0 ∧ v = .slice ao' n cap' ∧ Hid ((layF (F.take k)).length = n) ∧ Hid (wr.ownsRow w.heap.size 5 1 (.slice ao' n cap') n ((layF (F.take k)).map bv)) ∧ Hid (Below w.heap.size w wr)) (fun _ i _ => k0 - (intOf i).toNat)
  case atStart => exact ⟨0, 0, none, 0, rfl, Nat.zero_le _, rfl, by simp [layF, Hid], World.ownsRow_nil _ _ _ _, Below.refl _ _⟩
  case round =>
    obtain ⟨k, n, ao', cap', rfl, hkk, rfl, HNn, HO, HB⟩ := hrel
    have hn80 : n ≤ 80 := by rw [← HNn.out]; exact HLn.out k
    by_cases hlt : k < k0
    · obtain ⟨⟨x, m⟩, hx⟩ : ∃ x, F[k]? = some x := ⟨_, List.getElem?_eq_getElem (by rw [HK.out]; exact hlt)⟩
      obtain ⟨hx64, hm1, hm8⟩ := H8.out _ (List.mem_of_getElem? hx)
      simp only at hx64 hm1 hm8
      have hblk : wr.heap[g]? = some (.cells (fcells F).toArray TFd (0, 0)) := (HB.out.block g (block_lt HF.out)).trans HF.out
      have z0 : wr.cell? ⟨g, k * 2, none⟩ = some (.int .u64 (x : Int)) := by rw [blk_at hblk, List.getElem?_toArray]; exact (fcells_at F k _ hx).1
      have z1 : wr.cell? ⟨g, k * 2 + 1, none⟩ = some (.int .i64 (m : Int)) := by rw [blk_at hblk, List.getElem?_toArray]; exact (fcells_at F k _ hx).2
      have HT : Hid (layF (F.take (k + 1)) = layF (F.take k) ++ bigTo x m m) := by show _ = _; rw [List.take_add_one, hx]; exact layF_snoc _ _
      have HBig : Hid (Calls Tryd.prog 97 #[.int .u64 (x : Int), .int .i64 (m : Int)] wr.drew fun e w' => e = .returned (.slice (some ⟨wr.heap.size, 0, none⟩) m m) ∧ w'.ownsRow wr.heap.size 5 1 (.slice (some ⟨wr.heap.size, 0, none⟩) m m) m ((bigTo x m m).map bv) ∧ Below wr.heap.size wr.drew w') := rbig_any x m wr.drew hx64 hm8
      have hkz : (k : Int) < (k0 : Int) := by omega
      have HS : Hid (w.heap.size ≤ wr.heap.size) := HB.out.size
      clear hx hblk
      go_wp2
      go_region_law (first | (go_simp; go_at_call 97; refine HBig.out.mono ?_; rintro r W4 ⟨rfl, ho4, hb4⟩; have HO4 : Hid (W4.ownsRow wr.heap.size 5 1 (.slice (some ⟨wr.heap.size, 0, none⟩) m m) m ((bigTo x m m).map bv)) := ho4; have HB4 : Hid (Below wr.heap.size wr.drew W4) := hb4; clear ho4 hb4; dsimp only) | (refine step_append_two rfl (.tmp 13) (.tmp 24) 25 rfl w.heap.size 5 i0 (.int .u8 0) 1 Tryd.underlying25 hi hz0 hz1 hz2 rfl (.slice ao' n cap') n ((layF (F.take k)).map bv) (by first | (simp [Act.eval]; done) | simp [Act.eval, Act.put]) (owns_same HO.out fun g' hg' => HB4.out.block g' (owns_lt HO.out g' hg').1) ⟨wr.heap.size, 0, none⟩ m m ((bigTo x m m).map bv) (by first | (simp [Act.eval]; done) | simp [Act.eval, Act.put]) (by simp [bigTo_length]) (own_news HO4.out) (bv_one _) (by unfold maxLen; omega) (by omega) (Nat.le_trans HS.out HB4.out.size) ?_; intro ao5 cap5 W5 ho5 hg5 hf5))
      all_goals
        have hb5 : Below w.heap.size w W5 := (HB.out.trans ((show Below wr.heap.size wr W4 from ⟨HB4.out.os, HB4.out.tape, HB4.out.output, HB4.out.size, HB4.out.block⟩).mono HS.out)).grown hg5 (Nat.le_trans HS.out HB4.out.size) (fun g' hg' => (owns_lt HO.out g' hg').2)
        have HO5 : Hid (W5.ownsRow w.heap.size 5 1 (.slice ao5 (n + m) cap5) (n + m) ((layF (F.take (k + 1))).map bv)) := by rw [HT.out, List.map_append]; exact ho5
        have HB5 : Hid (Below w.heap.size w W5) := hb5
        have HN5 : Hid ((layF (F.take (k + 1))).length = n + m) := by show _ = _; rw [HT.out, List.length_append, bigTo_length, HNn.out]
        clear hb5 ho5 hg5 hf5 HO4 HB4
        go_wp2
        go_roundw
        case rel => exact ⟨k + 1, n + m, ao5, cap5, by go_num, by omega, rfl, HN5, HO5, HB5⟩
        case measure => simp [intOf]; omega
    · obtain rfl : k = k0 := by omega
      have HE : Hid (F.take k = F) := by show _ = _; rw [← HK.out]; exact List.take_length
      go_wp2_with (at_builtin; refine wpList_append_two _ rfl (.tmp 26) (.tmp 27) 25 rfl w.heap.size 5 i0 (.int .u8 0) 1 Tryd.underlying25 hi hz0 hz1 hz2 rfl (.slice ao' n cap') n ((layF (F.take k)).map bv) rfl HO.out ao d.length cap (d.map bv) rfl (HD.out.later HB.out).nil' (by simp) (HD.out.later HB.out).news (bv_one d) (by unfold maxLen; omega) (by omega) HB.out.size ?_)
      intro v' w1 ho hg hf
      have hb5 : Below w.heap.size w w1 := HB.out.grown hg HB.out.size (fun g' hg' => (owns_lt HO.out g' hg').2)
      obtain ⟨ao5, cap5, rfl⟩ := owns_form ho
      have HO5 : Hid (w1.ownsRow w.heap.size 5 1 (.slice ao5 (n + d.length) cap5) (n + d.length) ((layF F ++ d).map bv)) := by have := ho; rw [HE.out] at this; rw [List.map_append]; exact this
      have HB5 : Hid (Below w.heap.size w w1) := hb5
      have HN5 : Hid ((layF F ++ d).length = n + d.length) := by show _ = _; rw [List.length_append, ← HNn.out, HE.out]
      clear hb5 ho hg hf
      go_wp2
      go_ret
      refine ⟨ao5, cap5, by rw [HN5.out]; rfl, ?_, ?_, HB5.out⟩
      · rw [HN5.out]; exact HO5.out
      · intro x hx
        rcases List.mem_append.1 hx with hx | hx
        · exact layF_lt F x hx
        · exact HD.out.lt x hx
end Go.Proofs.YtjikibhhhchgeaaDoor
