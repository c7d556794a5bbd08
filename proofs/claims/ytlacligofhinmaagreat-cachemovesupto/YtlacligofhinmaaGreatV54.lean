import Derived.Test.YtlacligofhinmaaGreatV53
import Derived.Test.YtlacligofhinmaaGreatV27
namespace Go.Proofs.YtlacligofhinmaaGreat.C
open Go.RowKit Go.Maps Go.Shelf Go.Proofs.YtlacligofhinmaaGreat
attribute [local go_sem] Oper.semAt_some
set_option linter.unusedVariables false
set_option linter.unusedSimpArgs false
set_option maxRecDepth 100000

set_option maxHeartbeats 4000000 in
theorem made_badn (w : World) (n k : Int) (v : Value) (h : n < 1 ∨ 65536 < n) : Calls Tryz.prog 9 #[.agg #[.int .i64 n, .int .i64 k, v]] w fun r w' => ∃ x, r = .returned (.tuple #[.pointer (some ⟨x, 0, none⟩), .bool true]) ∧ Below w.heap.size w w' ∧ w'.cell? ⟨x, 1, none⟩ = some (.pointer none) := by
  obtain ⟨W0, hW0⟩ : ∃ W0, W0 = w.alloc (.cells #[.int .i64 n, .int .i64 k, v] TSe) := ⟨_, rfl⟩
  have hB0 : Below w.heap.size w W0 := by rw [hW0]; exact (Below.refl _ w).alloc (Nat.le_refl _) _
  have hbx : W0.heap[w.heap.size]? = some (.cells #[.int .i64 n, .int .i64 k, v] TSe) := by rw [hW0]; exact heap_alloc_new w _
  have k0 : W0.cell? ⟨w.heap.size, 0, none⟩ = some (.int .i64 n) := (K.cell_of hbx).trans rfl
  have h1 := K.new_bad W0 n h
  have h2 := rnew_bad W0 n h
  have HB0 : Hid (Below w.heap.size w W0) := hB0
  clear hB0 hbx h
  go_enter Tryz.func9, Tryz.ntmps9
  go_wp2_with fail
  rw [← hW0]
  refine Calls.mono h1 ?_
  clear h1 hW0
  rintro e W1 ⟨rfl, hw1⟩
  rw [hw1]
  clear hw1
  go_wp2_with fail
  refine Calls.mono h2 ?_
  clear h2
  rintro e W2 ⟨rfl, hw2⟩
  rw [hw2]
  clear hw2
  go_wp2
  refine bodyPost_ret (results_tmp2 rfl _ _ _) rfl ?_
  exact ⟨_, rfl, HB0.out.alloc HB0.out.size _, (K.cell_of (heap_alloc_new W0 _)).trans rfl⟩
/-- what made leaves -/
def MP (w : World) (n k : Int) (l : List (Int × Int)) (r : Ending) (w' : World) : Prop :=
  ∃ x, r = .returned (.tuple #[.pointer (some ⟨x, 0, none⟩), .bool true]) ∧ Below w.heap.size w w' ∧ (w'.cell? ⟨x, 1, none⟩ = some (.pointer none) ∨ ∃ t : Nat, newE t k l = 0 ∧ ∃ P A C, Pq w.heap.size w' x P A (K.newDk t) C (K.newDk t) C ∧ A.pot C = 0)
theorem made_any (w : World) (n k : Int) {v : Value} {l : List (Int × Int)} (hv : ArgS w v l) (hl : l.length ≤ 1048576) (hw : ∀ p ∈ l, I64 p.1 ∧ I64 p.2) : Calls Tryz.prog 9 #[.agg #[.int .i64 n, .int .i64 k, v]] w (MP w n k l) := by
  by_cases hn : n < 1 ∨ 65536 < n
  · refine (made_badn w n k v hn).mono ?_
    rintro r w' ⟨x, rfl, hb, hc⟩
    exact ⟨x, rfl, hb, .inl hc⟩
  · obtain ⟨t, rfl⟩ : ∃ t : Nat, n = t := ⟨n.toNat, by omega⟩
    refine (made_q w t (by omega) (by omega) k hv hl hw).mono ?_
    rintro r w' ⟨x, rfl, hb, hc | ⟨he, P, A, hp, h0⟩⟩
    · exact ⟨x, rfl, hb, .inl hc⟩
    · exact ⟨x, rfl, hb, .inr ⟨t, he, P, A, _, hp, h0⟩⟩
/-- what holds at a round of the script -/
def Rnd (W0 W : World) (x t j : Nat) : Prop := ∃ P A S C, Pq W0.heap.size W x P A S C S C ∧ Below W0.heap.size W0 W ∧ S.n = t ∧ A.pot C ≤ 2 * j
set_option maxHeartbeats 8000000 in
theorem plays_any {w : World} (n k : Int) {v : Value} {l : List (Int × Int)} (hv : ArgS w v l) (hl : l.length ≤ 1048576) (hw : ∀ p ∈ l, I64 p.1 ∧ I64 p.2) (so : Option Addr) (sm cap : Nat) (os : List Opq) (hm : sm = os.length) (hm8 : 8 * sm ≤ 1048576) (hr : OqRow w so os) (hok : ∀ o ∈ os, OpqOk w o) (lo hi : Int) :
    Calls Tryz.prog 8 #[.agg #[.int .i64 n, .int .i64 k, v], .slice so sm cap, .int .i64 lo, .int .i64 hi] w fun r w' => r = .returned (.bool true) ∧ Below w.heap.size w w' := by
  obtain ⟨vo, vc, rfl, _⟩ := hv.form
  obtain ⟨W0, hW0⟩ : ∃ W0, W0 = w.alloc (.cells #[.int .i64 n, .int .i64 k, .slice vo l.length vc] TSe) := ⟨_, rfl⟩
  have hB0 : Below w.heap.size w W0 := by rw [hW0]; exact (Below.refl _ w).alloc (Nat.le_refl _) _
  have hbx : W0.heap[w.heap.size]? = some (.cells #[.int .i64 n, .int .i64 k, .slice vo l.length vc] TSe) := by rw [hW0]; exact heap_alloc_new w _
  have hs0 : W0.heap.size = w.heap.size + 1 := by rw [hW0]; simp
  have HW0 : Hid (W0 = w.alloc (.cells #[.int .i64 n, .int .i64 k, .slice vo l.length vc] TSe)) := hW0
  have HB0 : Hid (Below w.heap.size w W0) := hB0
  have HMd : Hid (Calls Tryz.prog 9 #[.agg #[.int .i64 n, .int .i64 k, .slice vo l.length vc]] W0 (MP W0 n k l)) := made_any W0 n k (hv.later hB0) hl hw
  have HBx : Hid (∀ W, Below W0.heap.size W0 W → W.cell? ⟨w.heap.size, 0, none⟩ = some (.int .i64 n) ∧ W.cell? ⟨w.heap.size, 1, none⟩ = some (.int .i64 k) ∧ W.cell? ⟨w.heap.size, 2, none⟩ = some (.slice vo l.length vc)) := fun W hb => by
    have h1 := (hb.block w.heap.size (by omega)).trans hbx
    exact ⟨(K.cell_of h1).trans rfl, (K.cell_of h1).trans rfl, (K.cell_of h1).trans rfl⟩
  have HSc : Hid (∀ (i : Nat), i < sm → ∃ o b off, o ∈ os ∧ so = some ⟨b, off, none⟩ ∧ ∀ W, Below W0.heap.size W0 W → W.cell? ⟨b, off + i * 11, none⟩ = some (.int .i64 o.kind) ∧ W.cell? ⟨b, off + i * 11 + 1, none⟩ = some (.int .i64 o.sector) ∧ W.cell? ⟨b, off + i * 11 + 2, none⟩ = some (.int .u8 o.fill) ∧ W.cell? ⟨b, off + i * 11 + 3, none⟩ = some (.int .i64 o.more) ∧ W.cell? ⟨b, off + i * 11 + 4, none⟩ = some (.slice o.lo o.list.length o.lc) ∧ W.cell? ⟨b, off + i * 11 + 5, none⟩ = some (.int .i64 o.f.kind) ∧ W.cell? ⟨b, off + i * 11 + 6, none⟩ = some (.int .i64 o.f.sector) ∧ W.cell? ⟨b, off + i * 11 + 7, none⟩ = some (.int .i64 o.f.after) ∧ W.cell? ⟨b, off + i * 11 + 8, none⟩ = some (.int .i64 o.f.times) ∧ W.cell? ⟨b, off + i * 11 + 9, none⟩ = some (.bool o.f.land) ∧ W.cell? ⟨b, off + i * 11 + 10, none⟩ = some (.slice o.ko o.keep.length o.kc)) := fun i hi => by
    obtain ⟨o, ho⟩ : ∃ o, os[i]? = some o := ⟨_, List.getElem?_eq_getElem (by omega)⟩
    obtain ⟨b, off, e, hc⟩ := hr.at_ i o ho
    have hg : b < w.heap.size := cell_lt ((hc 0 (by decide)).trans rfl)
    refine ⟨o, b, off, List.mem_of_getElem? ho, e, fun W hb => ?_⟩
    have hbw : Below w.heap.size w W := hB0.trans (hb.mono (by omega))
    have hcw : ∀ j, j < 11 → W.cell? ⟨b, off + i * 11 + j, none⟩ = o.cells[j]? := fun j hj => (World.cell?_of_block (a := ⟨b, off + i * 11 + j, none⟩) (hbw.block b hg)).trans (hc j hj)
    exact ⟨(hcw 0 (by decide)).trans rfl, (hcw 1 (by decide)).trans rfl, (hcw 2 (by decide)).trans rfl, (hcw 3 (by decide)).trans rfl, (hcw 4 (by decide)).trans rfl, (hcw 5 (by decide)).trans rfl, (hcw 6 (by decide)).trans rfl, (hcw 7 (by decide)).trans rfl, (hcw 8 (by decide)).trans rfl, (hcw 9 (by decide)).trans rfl, (hcw 10 (by decide)).trans rfl⟩
  have HRn : Hid (∀ W x t j o, newE t k l = 0 → j < sm → o ∈ os → Rnd W0 W x t j → Calls Tryz.prog 11 #[.pointer (some ⟨x, 0, none⟩), .agg #[.int .i64 n, .int .i64 k, .slice vo l.length vc], .agg #[.int .i64 o.kind, .int .i64 o.sector, .int .u8 o.fill, .int .i64 o.more, .slice o.lo o.list.length o.lc, .int .i64 o.f.kind, .int .i64 o.f.sector, .int .i64 o.f.after, .int .i64 o.f.times, .bool o.f.land, .slice o.ko o.keep.length o.kc]] W fun r W' => r = .returned (.bool true) ∧ Rnd W0 W' x t (j + 1)) := fun W x t j o hE hj ho hrd => by
    obtain ⟨P, A, S, C, hp, hb, hn, hq⟩ := hrd
    have hok0 := (hok o ho)
    refine (changes_any hp (by omega) hb (o := o) ⟨hok0.fill, hok0.sw, hok0.fa, hok0.ft, hok0.ll, hok0.row.later hB0, borow_low hok0.kr (hB0.mono (Nat.le_refl _)) (fun ad e hne => ?_)⟩ n k (hv.later hB0) hl hw (by rw [hn]; exact hE)).mono ?_
    · obtain ⟨b, off, e', hc⟩ := hok0.kr.at_ hne
      obtain ⟨y, r, hy⟩ : ∃ y r, o.keep = y :: r := List.exists_cons_of_ne_nil hne
      have h1 := hc 0 y (by rw [hy]; rfl)
      rw [e] at e'
      cases e'
      exact cell_lt h1
    · rintro r W' ⟨rfl, P', A', S', C', hp', hb', hn', hq'⟩
      exact ⟨rfl, P', A', S', C', hp', hb.trans hb', by rw [hn', hn], by omega⟩
  have e1 := eq_cp
  clear hv hl hw hr hok hB0 hbx hW0 hm
  go_enter Tryz.func8, Tryz.ntmps8
  go_wp2_with fail
  rw [← HW0.out]
  refine HMd.out.mono ?_
  rintro r W1 ⟨x, rfl, hb1, hcase⟩
  have HC1 : Hid (Below W0.heap.size W0 W1 ∧ (W1.cell? ⟨x, 1, none⟩ = some (.pointer none) ∨ ∃ t : Nat, newE t k l = 0 ∧ ∃ P A C, Pq W0.heap.size W1 x P A (K.newDk t) C (K.newDk t) C ∧ A.pot C = 0)) := ⟨hb1, hcase⟩
  clear hb1 hcase HMd
  go_wp2_with fail
  refine (heads_c W1).mono ?_
  rintro r W2 ⟨rfl, hb2⟩
  have HB2 : Hid (Below W1.heap.size W1 W2) := hb2
  have HB02 : Hid (Below W0.heap.size W0 W2) := HC1.out.1.trans (hb2.mono HC1.out.1.size)
  clear hb2
  rcases HC1.out.2 with hnil | ⟨t, hE, P, A, C, hp, h0⟩
  · have z1 := cell_later HB2.out hnil
    clear hnil
    go_wp2
    go_ret
    exact ⟨rfl, HB0.out.trans (HB02.out.mono (by omega))⟩
  · have hp2 := hp.later HB2.out
    have z1 := hp2.c1
    have HR0 : Hid (Rnd W0 W2 x t 0) := ⟨P, A, K.newDk t, C, hp2, HB02.out, rfl, by omega⟩
    have HE : Hid (newE t k l = 0) := hE
    clear hp hp2 hE h0 HC1
    go_wp2
    clear z1
    go_loopw [11] (fun c11 wr => ∃ (i : Nat), i ≤ sm ∧ c11 = .int .i64 i ∧ Hid (Rnd W0 wr x t i)) (fun c11 _ => sm - (intOf c11).toNat)
    case atStart => exact ⟨0, Nat.zero_le _, rfl, HR0⟩
    case round =>
      obtain ⟨i, hi2, rfl, HRi⟩ := hrel
      have HBi : Hid (Below W0.heap.size W0 wr) := by obtain ⟨P, A, S, C, h1, h2, _⟩ := HRi.out; exact h2
      by_cases hlt : i < sm
      · have hiz : (i : Int) < (sm : Int) := by omega
        obtain ⟨o, b, off, hom, hso, hcs⟩ := HSc.out i hlt
        subst hso
        have HOm : Hid (o ∈ os) := hom
        have HRd : Hid (Rnd W0 wr.drew x t i) := by
          obtain ⟨P, A, S, C, h1, h2, h3, h4⟩ := HRi.out
          exact ⟨P, A, S, C, h1.later (K.below_drew wr), h2.drew, h3, h4⟩
        have HZ : Hid (∀ X, Below W0.heap.size W0 X → X.cell? ⟨w.heap.size, 0, none⟩ = some (.int .i64 n) ∧ X.cell? ⟨w.heap.size, 1, none⟩ = some (.int .i64 k) ∧ X.cell? ⟨w.heap.size, 2, none⟩ = some (.slice vo l.length vc) ∧ X.cell? ⟨b, off + i * 11, none⟩ = some (.int .i64 o.kind) ∧ X.cell? ⟨b, off + i * 11 + 1, none⟩ = some (.int .i64 o.sector) ∧ X.cell? ⟨b, off + i * 11 + 2, none⟩ = some (.int .u8 o.fill) ∧ X.cell? ⟨b, off + i * 11 + 3, none⟩ = some (.int .i64 o.more) ∧ X.cell? ⟨b, off + i * 11 + 4, none⟩ = some (.slice o.lo o.list.length o.lc) ∧ X.cell? ⟨b, off + i * 11 + 5, none⟩ = some (.int .i64 o.f.kind) ∧ X.cell? ⟨b, off + i * 11 + 6, none⟩ = some (.int .i64 o.f.sector) ∧ X.cell? ⟨b, off + i * 11 + 7, none⟩ = some (.int .i64 o.f.after) ∧ X.cell? ⟨b, off + i * 11 + 8, none⟩ = some (.int .i64 o.f.times) ∧ X.cell? ⟨b, off + i * 11 + 9, none⟩ = some (.bool o.f.land) ∧ X.cell? ⟨b, off + i * 11 + 10, none⟩ = some (.slice o.ko o.keep.length o.kc)) := fun X hX => ⟨(HBx.out X hX).1, (HBx.out X hX).2.1, (HBx.out X hX).2.2, hcs X hX⟩
        have z0 : wr.cell? ⟨w.heap.size, 0, none⟩ = some (.int .i64 n) ∧ wr.cell? ⟨w.heap.size, 1, none⟩ = some (.int .i64 k) ∧ wr.cell? ⟨w.heap.size, 2, none⟩ = some (.slice vo l.length vc) ∧ wr.cell? ⟨b, off + i * 11, none⟩ = some (.int .i64 o.kind) ∧ wr.cell? ⟨b, off + i * 11 + 1, none⟩ = some (.int .i64 o.sector) ∧ wr.cell? ⟨b, off + i * 11 + 2, none⟩ = some (.int .u8 o.fill) ∧ wr.cell? ⟨b, off + i * 11 + 3, none⟩ = some (.int .i64 o.more) ∧ wr.cell? ⟨b, off + i * 11 + 4, none⟩ = some (.slice o.lo o.list.length o.lc) ∧ wr.cell? ⟨b, off + i * 11 + 5, none⟩ = some (.int .i64 o.f.kind) ∧ wr.cell? ⟨b, off + i * 11 + 6, none⟩ = some (.int .i64 o.f.sector) ∧ wr.cell? ⟨b, off + i * 11 + 7, none⟩ = some (.int .i64 o.f.after) ∧ wr.cell? ⟨b, off + i * 11 + 8, none⟩ = some (.int .i64 o.f.times) ∧ wr.cell? ⟨b, off + i * 11 + 9, none⟩ = some (.bool o.f.land) ∧ wr.cell? ⟨b, off + i * 11 + 10, none⟩ = some (.slice o.ko o.keep.length o.kc) := HZ.out wr HBi.out
        have zd : wr.drew.cell? ⟨w.heap.size, 0, none⟩ = some (.int .i64 n) ∧ wr.drew.cell? ⟨w.heap.size, 1, none⟩ = some (.int .i64 k) ∧ wr.drew.cell? ⟨w.heap.size, 2, none⟩ = some (.slice vo l.length vc) ∧ wr.drew.cell? ⟨b, off + i * 11, none⟩ = some (.int .i64 o.kind) ∧ wr.drew.cell? ⟨b, off + i * 11 + 1, none⟩ = some (.int .i64 o.sector) ∧ wr.drew.cell? ⟨b, off + i * 11 + 2, none⟩ = some (.int .u8 o.fill) ∧ wr.drew.cell? ⟨b, off + i * 11 + 3, none⟩ = some (.int .i64 o.more) ∧ wr.drew.cell? ⟨b, off + i * 11 + 4, none⟩ = some (.slice o.lo o.list.length o.lc) ∧ wr.drew.cell? ⟨b, off + i * 11 + 5, none⟩ = some (.int .i64 o.f.kind) ∧ wr.drew.cell? ⟨b, off + i * 11 + 6, none⟩ = some (.int .i64 o.f.sector) ∧ wr.drew.cell? ⟨b, off + i * 11 + 7, none⟩ = some (.int .i64 o.f.after) ∧ wr.drew.cell? ⟨b, off + i * 11 + 8, none⟩ = some (.int .i64 o.f.times) ∧ wr.drew.cell? ⟨b, off + i * 11 + 9, none⟩ = some (.bool o.f.land) ∧ wr.drew.cell? ⟨b, off + i * 11 + 10, none⟩ = some (.slice o.ko o.keep.length o.kc) := z0
        have hch := HRn.out wr.drew x t i o HE.out hlt HOm.out HRd.out
        clear hcs hom HBi HSc HBx HRn
        go_wp2_with fail
        go_region_held3 (fun w' => w'.cell? ⟨w.heap.size, 0, none⟩ = some (.int .i64 n) ∧ w'.cell? ⟨w.heap.size, 1, none⟩ = some (.int .i64 k) ∧ w'.cell? ⟨w.heap.size, 2, none⟩ = some (.slice vo l.length vc) ∧ w'.cell? ⟨b, off + i * 11, none⟩ = some (.int .i64 o.kind) ∧ w'.cell? ⟨b, off + i * 11 + 1, none⟩ = some (.int .i64 o.sector) ∧ w'.cell? ⟨b, off + i * 11 + 2, none⟩ = some (.int .u8 o.fill) ∧ w'.cell? ⟨b, off + i * 11 + 3, none⟩ = some (.int .i64 o.more) ∧ w'.cell? ⟨b, off + i * 11 + 4, none⟩ = some (.slice o.lo o.list.length o.lc) ∧ w'.cell? ⟨b, off + i * 11 + 5, none⟩ = some (.int .i64 o.f.kind) ∧ w'.cell? ⟨b, off + i * 11 + 6, none⟩ = some (.int .i64 o.f.sector) ∧ w'.cell? ⟨b, off + i * 11 + 7, none⟩ = some (.int .i64 o.f.after) ∧ w'.cell? ⟨b, off + i * 11 + 8, none⟩ = some (.int .i64 o.f.times) ∧ w'.cell? ⟨b, off + i * 11 + 9, none⟩ = some (.bool o.f.land) ∧ w'.cell? ⟨b, off + i * 11 + 10, none⟩ = some (.slice o.ko o.keep.length o.kc)) (first | exact z0 | exact zd | exact HZ3.out | go_keep) (first | (go_at_call 11; refine hch.mono ?_; rintro r W3 ⟨rfl, hr3⟩; have HR3 : Hid (Rnd W0 W3 x t (i + 1)) := hr3; have HZ3 : Hid (W3.cell? ⟨w.heap.size, 0, none⟩ = some (.int .i64 n) ∧ W3.cell? ⟨w.heap.size, 1, none⟩ = some (.int .i64 k) ∧ W3.cell? ⟨w.heap.size, 2, none⟩ = some (.slice vo l.length vc) ∧ W3.cell? ⟨b, off + i * 11, none⟩ = some (.int .i64 o.kind) ∧ W3.cell? ⟨b, off + i * 11 + 1, none⟩ = some (.int .i64 o.sector) ∧ W3.cell? ⟨b, off + i * 11 + 2, none⟩ = some (.int .u8 o.fill) ∧ W3.cell? ⟨b, off + i * 11 + 3, none⟩ = some (.int .i64 o.more) ∧ W3.cell? ⟨b, off + i * 11 + 4, none⟩ = some (.slice o.lo o.list.length o.lc) ∧ W3.cell? ⟨b, off + i * 11 + 5, none⟩ = some (.int .i64 o.f.kind) ∧ W3.cell? ⟨b, off + i * 11 + 6, none⟩ = some (.int .i64 o.f.sector) ∧ W3.cell? ⟨b, off + i * 11 + 7, none⟩ = some (.int .i64 o.f.after) ∧ W3.cell? ⟨b, off + i * 11 + 8, none⟩ = some (.int .i64 o.f.times) ∧ W3.cell? ⟨b, off + i * 11 + 9, none⟩ = some (.bool o.f.land) ∧ W3.cell? ⟨b, off + i * 11 + 10, none⟩ = some (.slice o.ko o.keep.length o.kc)) := HZ.out W3 (by obtain ⟨_, _, _, _, _, h9, _⟩ := hr3; exact h9); clear hr3 hch))
        go_wp2
        go_roundw
        case rel => exact ⟨i + 1, by omega, by go_num, HR3⟩
        case measure => simp [intOf]; omega
      · have hiz : ¬ (i : Int) < (sm : Int) := by omega
        go_wp2
        go_ret
        exact ⟨rfl, HB0.out.trans (HBi.out.mono (by omega))⟩
end Go.Proofs.YtlacligofhinmaaGreat.C
