import Derived.Test.YtijafckdbhklmaaXRl
import Derived.Test.YtijafckdbhklmaaXFI
import Derived.Test.YtijafckdbhklmaaXO
import Derived.Deep.RegionHeld3
namespace Go.Proofs.Ytijafckdbhklmaa.I
open Go.RowKit Go.Sort Go.Lib
set_option linter.unusedVariables false
set_option linter.unusedSimpArgs false
set_option maxRecDepth 100000

/-- the runs behind these Sets -/
def runsL (size first : Int) (l : List Put) : List (Rn Int) := l.foldl (fun rs q => setR size rs q.1 q.2.1 q.2.2) (joined [⟨0, size, first⟩])
theorem runsL_snoc (size first : Int) (l : List Put) (q : Put) : runsL size first (l ++ [q]) = setR size (runsL size first l) q.1 q.2.1 q.2.2 := by simp [runsL]
theorem runsL_gen (size : Int) : ∀ (l : List Put) (rs : List (Rn Int)) (f : Int → Int), Tiles 0 size rs → Alt rs → (∀ i u, Has rs i u ↔ (0 ≤ i ∧ i < size ∧ f i = u)) →
    Tiles 0 size (l.foldl (fun rs q => setR size rs q.1 q.2.1 q.2.2) rs) ∧ Alt (l.foldl (fun rs q => setR size rs q.1 q.2.1 q.2.2) rs) ∧ ∀ i u, Has (l.foldl (fun rs q => setR size rs q.1 q.2.1 q.2.2) rs) i u ↔ (0 ≤ i ∧ i < size ∧ lastV size (f i) l i = u)
  | [], rs, f, ht, ha, hh => ⟨ht, ha, hh⟩
  | q :: l, rs, f, ht, ha, hh => by
    obtain ⟨t2, a2, h2⟩ := setR_spec ht ha q.1 q.2.1 q.2.2
    have := runsL_gen size l (setR size rs q.1 q.2.1 q.2.2) (fun i => if may size q.1 q.2.1 ∧ q.1 ≤ i ∧ i < q.2.1 then q.2.2 else f i) t2 a2 (fun i u => by
      rw [h2]
      by_cases hc : may size q.1 q.2.1 ∧ q.1 ≤ i ∧ i < q.2.1
      · rw [if_pos hc, if_pos hc]
        obtain ⟨⟨m0, m1, m2⟩, m3, m4⟩ := hc
        constructor
        · intro h; exact ⟨by omega, by omega, h⟩
        · intro h; exact h.2.2
      · rw [if_neg hc, if_neg hc]; exact hh i u)
    exact this
theorem runsL_spec (size first : Int) (h0 : 0 ≤ size) (l : List Put) : Tiles 0 size (runsL size first l) ∧ Alt (runsL size first l) ∧ ∀ i u, Has (runsL size first l) i u ↔ (0 ≤ i ∧ i < size ∧ lastV size first l i = u) := by
  obtain ⟨a, b, c⟩ := joined_one size first h0
  exact runsL_gen size l _ (fun _ => first) a b c

theorem below_drewW (w : World) (n : Nat) : Below w.heap.size w (w.drewN n) := by
  have := below_of_grow w.heap.size w n #[] (Nat.le_refl _)
  exact ⟨this.os, this.tape, this.output, Nat.le_refl _, fun _ _ => rfl⟩

set_option maxHeartbeats 8000000 in
theorem laid_any (size first : Int) (ao : Option Addr) (n cap : Nat) (l : List Put) (w : World) (HL : Hid (n = l.length)) (hn : n ≤ 9223372036854775807) (HR : Hid (Puts w ao l)) (h0 : 0 ≤ size) (h1 : size ≤ 1099511627776) :
    Calls Try.prog 19 #[.int .i64 size, .int .i64 first, .slice ao n cap] w fun e w' => ∃ bm v, e = .returned (.pointer (some ⟨bm, 0, none⟩)) ∧ MO w' w.heap.size bm v size (runsL size first l) ∧ Below w.heap.size w w' := by
  have HN : Hid (Calls Try.prog 8 #[.int .i64 size, .int .i64 first] w fun e w' => ∃ bm vv, e = .returned (.tuple #[.pointer (some ⟨bm, 0, none⟩), .int .i64 0]) ∧ MO w' w.heap.size bm vv size (joined [⟨0, size, first⟩]) ∧ Below w.heap.size w w') := new_any size first w h0 h1
  go_enter Try.func19, Try.ntmps19
  go_wp2_with (first | (go_at_call 8; refine HN.out.mono ?_; rintro e w1 ⟨bm, vv, rfl, hMO, hb1⟩) | (go_at_call 10; refine (num_any _ _).mono ?_; rintro e w9 ⟨rfl, hw9⟩; rw [hw9]; clear hw9))
  have HMO : Hid (MO w1 w.heap.size bm vv size (runsL size first [])) := hMO
  have HB1 : Hid (Below w.heap.size w w1) := hb1
  clear hMO hb1 HN
  go_loopw [9] (fun i wr => ∃ (k : Nat) (v : Value), k ≤ n ∧ i = .int .i64 k ∧ Hid (MO wr w.heap.size bm v size (runsL size first (l.take k))) ∧ Hid (Below w.heap.size w wr)) (fun i _ => n - (intOf i).toNat)
  case atStart => exact ⟨0, vv, Nat.zero_le _, rfl, HMO.out, HB1.out⟩
  case round =>
    obtain ⟨k, v, hk, rfl, HMOk, HBk⟩ := hrel
    by_cases hlt : k < n
    · obtain ⟨q, hq⟩ : ∃ q, l[k]? = some q := ⟨_, List.getElem?_eq_getElem (by have := HL.out; omega)⟩
      obtain ⟨b, off, rfl, d0, d1, d2⟩ := HR.out k q hq
      have c0 := cell_later HBk.out d0
      have c1 := cell_later HBk.out d1
      have c2 := cell_later HBk.out d2
      have HT : Hid (l.take (k + 1) = l.take k ++ [q]) := by
        show _ = _
        rw [List.take_add_one, hq]; rfl
      have HS : Hid (∀ m, Calls Try.prog 24 #[.pointer (some ⟨bm, 0, none⟩), .int .i64 q.1, .int .i64 q.2.1, .int .i64 q.2.2] (wr.drewN m) fun e w' => e = .returned (.int .i64 (setE size q.1 q.2.1)) ∧ SetTo (wr.drewN m) w.heap.size bm v size (runsL size first (l.take (k + 1))) w') := fun m => by
        rw [HT.out, runsL_snoc]
        exact set_any (HMOk.out.later (below_drewW wr m)) q.1 q.2.1 q.2.2
      have HBB : Hid (∀ m w9 v', KeptM (wr.drewN m) w9 bm v v' → Below w.heap.size w w9) := fun m w9 v' hK =>
        below_kept (HBk.out.trans ((below_drewW wr m).mono HBk.out.size)) hK HBk.out.size HMOk.out.base (fun g' hg' => (HMOk.out.row.lt g' hg').1)
      have HKC : Hid (∀ W, Below w.heap.size w W → W.cell? ⟨b, off + k * 3, none⟩ = some (.int .i64 q.1) ∧ W.cell? ⟨b, off + k * 3 + 1, none⟩ = some (.int .i64 q.2.1) ∧ W.cell? ⟨b, off + k * 3 + 2, none⟩ = some (.int .i64 q.2.2)) := fun W hW => ⟨cell_later hW d0, cell_later hW d1, cell_later hW d2⟩
      have hkz : (k : Int) < (n : Int) := by omega
      clear d0 d1 d2 hq
      go_wp2
      go_region_held3 (fun w' => w'.cell? ⟨b, off + k * 3, none⟩ = some (.int .i64 q.1) ∧ w'.cell? ⟨b, off + k * 3 + 1, none⟩ = some (.int .i64 q.2.1) ∧ w'.cell? ⟨b, off + k * 3 + 2, none⟩ = some (.int .i64 q.2.2)) (first | go_keep | exact ⟨s0, s1, s2⟩) (first | (go_at_call 24; refine (HS.out _).mono ?_; rintro e w9 ⟨rfl, v', hMO', hK⟩; obtain ⟨s0, s1, s2⟩ := HKC.out w9 (HBB.out _ _ _ hK)))
      go_wp2
      go_roundw
      case rel => exact ⟨k + 1, v', by omega, by go_num, hMO', HBB.out _ _ _ hK⟩
      case measure => simp [intOf]; omega
    · have e : k = n := by omega
      subst e
      have HE : Hid (l.take k = l) := by show _ = _; rw [HL.out, List.take_length]
      rw [HE.out] at HMOk
      go_wp2
      go_ret
      exact ⟨bm, v, rfl, HMOk.out, HBk.out⟩
theorem laid_bad (size first : Int) (s : Value) (w : World) (h : size < 0 ∨ 1099511627776 < size) :
    Calls Try.prog 19 #[.int .i64 size, .int .i64 first, s] w fun e w' => e = .returned (.pointer none) ∧ w' = w := by
  have HN := new_bad size (.int .i64 first) w h
  go_enter Try.func19, Try.ntmps19
  go_wp2_with (first | (go_at_call 8; refine HN.mono ?_; rintro e w9 ⟨rfl, hw9⟩; rw [hw9]; clear hw9) | (go_at_call 10; refine (num_any _ _).mono ?_; rintro e w9 ⟨rfl, hw9⟩; rw [hw9]; clear hw9))
  go_ret
  exact ⟨rfl, rfl⟩
end Go.Proofs.Ytijafckdbhklmaa.I
