import Derived.Test.YthmonfmpgjbhmaaG53
import Derived.Test.YthmonfmpgjbhmaaG45
namespace Go.Proofs.Ythmonfmpgjbhmaa.K
open Go.RowKit Go.Maps Go.Proofs.Ythmonfmpgjbhmaa
attribute [local go_sem] Oper.semAt_some
set_option linter.unusedVariables false
set_option linter.unusedSimpArgs false
set_option maxRecDepth 100000

/-- the pair behind i calls -/
structure Pl (w W : World) (b p : Nat) (S : Dk) (N : Nat) (H : List Nat) : Prop where
  pp : PP W b p S S N H
  bl : Below w.heap.size w W
  own : ∀ i ∈ H, w.heap.size ≤ i
theorem Pl.later {w W W' : World} {b p : Nat} {S : Dk} {N : Nat} {H : List Nat} (h : Pl w W b p S N H) (hb : Below W.heap.size W W') : Pl w W' b p S N H := ⟨h.pp.later hb, h.bl.trans (hb.mono h.bl.size), h.own⟩
theorem Pl.move {w W W' : World} {b p : Nat} {S S' : Dk} {N N' : Nat} {H H' : List Nat} (h : Pl w W b p S N H) (hp : PP W' b p S' S' N' H') (hm : Mv W W' H H') : Pl w W' b p S' N' H' :=
  ⟨hp, h.bl.trans (hm.kp.below h.own h.bl.size), fun i hi => (hm.sub i hi).elim (h.own i) (fun h1 => Nat.le_trans h.bl.size h1)⟩
theorem keep_out {w W : World} {o : Opn} {H : List Nat} (ho : OpOk w o) (hown : ∀ i ∈ H, w.heap.size ≤ i) : ∀ ad, o.ao = some ad → o.keep ≠ [] → ad.block ∉ H := fun ad e hne hm => by
  obtain ⟨bb, off', e2, hcc⟩ := ho.row.at_ hne
  rw [e] at e2
  cases e2
  have h5 : bb < w.heap.size := by
    cases hk : o.keep with
    | nil => exact absurd hk hne
    | cons x r => exact cell_lt (hcc 0 x (by rw [hk]; rfl))
  have h6 : w.heap.size ≤ bb := hown _ hm
  omega
set_option maxHeartbeats 8000000 in
theorem plays_any (w : World) (ns : Nat) (h0 : 1 ≤ ns) (h1 : ns ≤ 65536) (ao : Option Addr) (n cap : Nat) (l : List Opn) (hn : n = l.length) (hn1 : n ≤ 1048575) (hr : ORow w ao l) (hok : ∀ o ∈ l, OpOk w o) (lo hi : Int) :
    Calls Try.prog 20 #[.int .i64 ns, .slice ao n cap, .int .i64 lo, .int .i64 hi] w fun r w' => r = .returned (.bool true) ∧ Below w.heap.size w w' := by
  have hmade := made_any w ns h0 h1
  have HN : Hid (l.length = n) := hn.symm
  have HR : Hid (ORow w ao l) := hr
  have HO : Hid (∀ o ∈ l, OpOk w o) := hok
  have H01 : Hid (1 ≤ ns ∧ ns ≤ 65536) := ⟨h0, h1⟩
  clear hn hr hok h0 h1
  go_enter Try.func20, Try.ntmps20
  go_wp2_with fail
  refine hmade.mono ?_
  clear hmade
  rintro e w1 ⟨b, p, rfl, ms, ml, hs, hrf, hpw, hpf⟩
  have HS1 : Hid (Pl w w1 b p (newDk ns) 0 (fp b ms ml (.slice none 0 0) (.slice none 0 0) ++ fr p (.slice none 0 0) (.slice none 0 0) (.slice none 0 0) ([] ++ []))) := by
    refine ⟨PP.new H01.out.1 H01.out.2 hs hrf hpf, hs.bl, fun i hi => ?_⟩
    rcases List.mem_append.1 hi with hi | hi
    · exact hs.own i hi
    · rcases mem_fr.1 hi with rfl | hm | hm | hm | ⟨x, hx, _⟩
      · exact hpw
      · simp [Value.ownBlock] at hm
      · simp [Value.ownBlock] at hm
      · simp [Value.ownBlock] at hm
      · simp at hx
  clear hs hrf hpw hpf
  have hhd := heads_any w1
  go_wp2_with fail
  refine hhd.mono ?_
  clear hhd
  rintro e w2 ⟨rfl, hb2⟩
  have HS2 : Hid (∃ S H, Pl w w2 b p S 0 H) := ⟨_, _, HS1.out.later hb2⟩
  clear hb2 HS1
  go_wp2
  go_loopw [9, 12] (fun c9 c12 wr => ∃ (i b : Nat), i ≤ n ∧ c9 = .pointer (some ⟨b, 0, none⟩) ∧ c12 = .int .i64 i ∧ Hid (∃ S H, Pl w wr b p S i H)) (fun _ c12 _ => n - (intOf c12).toNat)
  case atStart => exact ⟨0, b, Nat.zero_le _, rfl, rfl, HS2⟩
  case round =>
    obtain ⟨i, b, hi, rfl, rfl, HW⟩ := hrel
    by_cases hlt : i < n
    · obtain ⟨o, ho⟩ : ∃ o, l[i]? = some o := ⟨_, List.getElem?_eq_getElem (by have := HN.out; omega)⟩
      obtain ⟨S, H, hpl⟩ := HW.out
      obtain ⟨bs, off, hao, hcs⟩ := HR.out.at_ i o ho
      subst hao
      have hokk := HO.out o (List.mem_of_getElem? ho)
      have hc : ∀ j, j < 10 → wr.cell? ⟨bs, off + i * 10 + j, none⟩ = o.cells[j]? := fun j hj => by
        have h1 := hcs j hj
        obtain ⟨v, hv⟩ : ∃ v, o.cells[j]? = some v := ⟨_, List.getElem?_eq_getElem hj⟩
        rw [hv] at h1 ⊢
        exact cell_later hpl.bl h1
      obtain ⟨W1, hW1⟩ : ∃ W1, W1 = wr.alloc (.cells o.cells.toArray TOp) := ⟨_, rfl⟩
      have hB1 : Below wr.heap.size wr W1 := by rw [hW1]; exact (Below.refl _ wr).alloc (Nat.le_refl _) _
      have hx1 : W1.heap[wr.heap.size]? = some (.cells o.cells.toArray TOp) := by rw [hW1]; exact heap_alloc_new wr _
      have HP1 : Hid (Pl w W1 b p S i H) := hpl.later hB1
      have HOw : Hid (OpOk w o ∧ OpOk W1 o) := ⟨hokk, hokk.fill, hokk.sw, hokk.fa, hokk.ft, hokk.row.kept (Kp.of_below HP1.out.bl []) (by simp)⟩
      have HKo : Hid (∀ ad, o.ao = some ad → o.keep ≠ [] → ad.block ∉ H) := keep_out (W := W1) hokk hpl.own
      obtain ⟨okind, osec, ofill, omore, ⟨fk, fsec, fa, ft, fl⟩, oao, ocap, okeep⟩ := o
      have q0 : wr.cell? ⟨bs, off + i * 10, none⟩ = some (.int .i64 okind) := hc 0 (by decide)
      have q1 : wr.cell? ⟨bs, off + i * 10 + 1, none⟩ = some (.int .i64 osec) := hc 1 (by decide)
      have q2 : wr.cell? ⟨bs, off + i * 10 + 2, none⟩ = some (.int .u8 ofill) := hc 2 (by decide)
      have q3 : wr.cell? ⟨bs, off + i * 10 + 3, none⟩ = some (.int .i64 omore) := hc 3 (by decide)
      have q4 : wr.cell? ⟨bs, off + i * 10 + 4, none⟩ = some (.int .i64 fk) := hc 4 (by decide)
      have q5 : wr.cell? ⟨bs, off + i * 10 + 5, none⟩ = some (.int .i64 fsec) := hc 5 (by decide)
      have q6 : wr.cell? ⟨bs, off + i * 10 + 6, none⟩ = some (.int .i64 fa) := hc 6 (by decide)
      have q7 : wr.cell? ⟨bs, off + i * 10 + 7, none⟩ = some (.int .i64 ft) := hc 7 (by decide)
      have q8 : wr.cell? ⟨bs, off + i * 10 + 8, none⟩ = some (.bool fl) := hc 8 (by decide)
      have q9 : wr.cell? ⟨bs, off + i * 10 + 9, none⟩ = some (.slice oao okeep.length ocap) := hc 9 (by decide)
      have y0 : W1.cell? ⟨wr.heap.size, 0, none⟩ = some (.int .i64 okind) := (cell_of hx1).trans rfl
      have hnl : (i : Int) < (n : Int) := by omega
      have HWe : Hid (W1 = wr.alloc (.cells #[.int .i64 okind, .int .i64 osec, .int .u8 ofill, .int .i64 omore, .int .i64 fk, .int .i64 fsec, .int .i64 fa, .int .i64 ft, .bool fl, .slice oao okeep.length ocap] TOp)) := hW1
      clear hpl hcs hokk hc hB1 hx1 hW1 ho HW HS2
      by_cases k11 : okind = 11
      · subst k11
        go_wp2_with fail
        rw [← HWe.out]
        refine (HP1.out.pp.copy (by omega) HP1.out.bl HP1.out.own).mono ?_
        rintro r W2 ⟨b', H', rfl, hcy⟩
        have HC2 : Hid (Cy w W2 b b' p S i i H') := hcy
        clear hcy y0 q0 q1 q2 q3 q4 q5 q6 q7 q8 q9 HOw HKo HP1 HWe
        go_wp2_with fail
        refine (bytes_any W2 200 0 (by decide)).mono ?_
        rintro r W3 ⟨v3, rfl, ho3, hb3⟩
        have hw4 := HC2.out.write hb3 (by omega) 0 (bytesL_lt _ _) (bytesL_len _ _) (by unfold blen; decide) (by unfold blen; decide) ho3
        obtain ⟨a3, c3, hv3⟩ := own_slice ho3
        subst hv3
        clear ho3 hb3
        go_wp2_with fail
        refine hw4.mono ?_
        clear hw4
        rintro r W4 ⟨⟨e4, rfl⟩, hc4⟩
        have HC4 : Hid (Cy w W4 b b' p S i (i + 1) H') := hc4
        clear hc4
        go_wp2_with fail
        refine (HC4.out.bar (by omega)).mono ?_
        rintro r W5 ⟨⟨e5, rfl⟩, hc5⟩
        have HC5 : Hid (Cy w W5 b b' p S i (i + 1) H') := hc5
        clear hc5
        go_wp2_with fail
        refine (HC5.out.fault ⟨1, -1, 0, 9, false⟩ (by unfold I64; decide) (by unfold I64; decide)).mono ?_
        rintro r W6 ⟨⟨e6, rfl⟩, hc6⟩
        have HC6 : Hid (Cy w W6 b b' p S i (i + 1) H') := hc6
        clear hc6
        go_wp2_with fail
        refine (HC6.out.crash (by omega)).mono ?_
        rintro r W7 ⟨rfl, hc7⟩
        have HP7 : Hid (∃ S H, Pl w W7 b' p S (i + 1) H) := ⟨S, H', hc7.pp.more (by omega), hc7.bl, hc7.own⟩
        clear hc7
        go_wp2
        go_roundw
        case rel => exact ⟨i + 1, b', by omega, rfl, by go_num, HP7⟩
        case measure => simp [intOf]; omega
      · go_wp2_with fail
        rw [← HWe.out]
        refine (acts_any HP1.out.pp (by omega) okind osec ofill omore fk fsec fa ft fl oao ocap okeep HOw.out.2.sw HOw.out.2.fill HOw.out.2.fa HOw.out.2.ft HOw.out.2.row HKo.out).mono ?_
        rintro r W2 ⟨rfl, S', H', hp2, hm2⟩
        have HP2 : Hid (∃ S H, Pl w W2 b p S (i + 1) H) := ⟨_, _, HP1.out.move hp2 hm2⟩
        clear hp2 hm2 y0 q0 q1 q2 q3 q4 q5 q6 q7 q8 q9 HOw HKo HP1 HWe
        go_wp2
        go_roundw
        case rel => exact ⟨i + 1, b, by omega, rfl, by go_num, HP2⟩
        case measure => simp [intOf]; omega
    · have e : i = n := by omega
      subst e
      obtain ⟨S, H, hpl⟩ := HW.out
      have HB : Hid (Below w.heap.size w wr) := hpl.bl
      clear hpl
      go_wp2
      go_ret
      exact ⟨rfl, HB.out⟩
end Go.Proofs.Ythmonfmpgjbhmaa.K

namespace Go.Proofs.Ythmonfmpgjbhmaa.K
open Go.RowKit Go.Maps Go.Proofs.Ythmonfmpgjbhmaa
attribute [local go_sem] Oper.semAt_some
set_option linter.unusedVariables false
set_option linter.unusedSimpArgs false
set_option maxRecDepth 100000

set_option maxHeartbeats 2000000 in
theorem plays_bad (w : World) (ns : Int) (h : ns < 1 ∨ 65536 < ns) (ao : Option Addr) (n cap : Nat) (lo hi : Int) :
    Calls Try.prog 20 #[.int .i64 ns, .slice ao n cap, .int .i64 lo, .int .i64 hi] w fun r w' => r = .returned (.bool true) ∧ Below w.heap.size w w' := by
  have hmade := made_bad w ns h
  have hhd := heads_any w
  clear h
  go_enter Try.func20, Try.ntmps20
  go_wp2_with fail
  refine hmade.mono ?_
  clear hmade
  rintro e w1 ⟨rfl, rfl⟩
  go_wp2_with fail
  refine hhd.mono ?_
  clear hhd
  rintro e w2 ⟨rfl, hb2⟩
  go_wp2
  go_ret
  exact ⟨rfl, hb2⟩
theorem plays_all (w : World) (ns : Int) (ao : Option Addr) (n cap : Nat) (l : List Opn) (hn : n = l.length) (hn1 : n ≤ 1048575) (hr : ORow w ao l) (hok : ∀ o ∈ l, OpOk w o) (lo hi : Int) :
    Calls Try.prog 20 #[.int .i64 ns, .slice ao n cap, .int .i64 lo, .int .i64 hi] w fun r w' => r = .returned (.bool true) ∧ Below w.heap.size w w' := by
  by_cases h : ns < 1 ∨ 65536 < ns
  · exact plays_bad w ns h ao n cap lo hi
  · obtain ⟨m, rfl⟩ : ∃ m : Nat, ns = m := ⟨ns.toNat, by omega⟩
    exact plays_any w m (by omega) (by omega) ao n cap l hn hn1 hr hok lo hi
end Go.Proofs.Ythmonfmpgjbhmaa.K
