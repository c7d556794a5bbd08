import Derived.Test.YtlacligofhinmaaGreatV38
import Derived.Test.YtlacligofhinmaaGreatV27
namespace Go.Proofs.YtlacligofhinmaaGreat.C
open Go.RowKit Go.Maps Go.Shelf Go.Proofs.YtlacligofhinmaaGreat
attribute [local go_sem] Oper.semAt_some
set_option linter.unusedVariables false
set_option linter.unusedSimpArgs false
set_option maxRecDepth 100000

section
variable {w w' : World} {A : Qa} {S S' : K.Dk} {C C' : Ch}
set_option maxHeartbeats 4000000 in
theorem rSafe5_any (h : RQ w A S C) (hq : A.pot C ≤ 1048576) (s : Int) : Calls Tryz.prog 86 #[.pointer (some ⟨A.q, 0, none⟩), .int .i64 s] w fun r w' => r = .returned (.bool (safeAt S C s)) ∧ Below w.heap.size w w' := by
  have hdi := rDirty_any h s
  have hwa := K.rWaits_any h.rr (by simp only [Qa.pot] at hq; omega) s
  have c0 : w.cell? ⟨A.q, 0, none⟩ = some (.pointer (some ⟨A.p, 0, none⟩)) := h.c 0
  have HH : Hid (∀ W, Below w.heap.size w W → W.cell? ⟨A.q, 0, none⟩ = some (.pointer (some ⟨A.p, 0, none⟩)) ∧ Calls Tryz.prog 47 #[.pointer (some ⟨A.p, 0, none⟩), .int .i64 s] W fun r w' => r = .returned (.bool (K.inD S.n s)) ∧ w' = W) := fun W hb => ⟨(h.later hb).c 0, K.rHas_any (h.later hb).rr s⟩
  unfold safeAt
  clear h
  generalize K.inD S.n s = b at *
  generalize dirtyAt C.L s = d at *
  generalize K.waitsI S.q s = q at *
  go_enter Tryz.func86, Tryz.ntmps86
  go_wp2_with fail
  refine Calls.mono hdi ?_
  clear hdi
  rintro r w1 ⟨rfl, hw1⟩
  rw [hw1]
  clear hw1
  go_wp2_with fail
  refine Calls.mono hwa ?_
  clear hwa
  rintro r w2 ⟨rfl, hb2⟩
  obtain ⟨c02, hha⟩ := HH.out w2 hb2
  have HB2 : Hid (Below w.heap.size w w2) := hb2
  clear hb2 HH c0
  cases b <;> cases d <;> cases q
  all_goals go_wp2_with (go_at_call 47; refine hha.mono ?_; rintro e w9 ⟨rfl, hw9⟩; rw [hw9]; clear hw9 hha)
  all_goals go_ret
  all_goals exact ⟨rfl, HB2.out⟩
/-- Peek -/
theorem rPeek_any (h : RQ w A S C) (hq : A.pot C ≤ 1048576) (s : Int) : Calls Tryz.prog 82 #[.pointer (some ⟨A.q, 0, none⟩), .int .i64 s] w fun r w' => ∃ v, r = .returned (.tuple #[v, .int .i64 (if K.inD S.n s = true then 0 else 31)]) ∧ w'.ownsRow w.heap.size 5 1 v (peekL S C s).length ((peekL S C s).map bv) ∧ Below w.heap.size w w' := by
  have c0 : w.cell? ⟨A.q, 0, none⟩ = some (.pointer (some ⟨A.p, 0, none⟩)) := h.c 0
  have hha := K.rHas_any h.rr s
  by_cases hi : K.inD S.n s = true
  · rw [hi] at hha
    obtain ⟨t, rfl, ht⟩ := inD_nat hi
    have hpk : peekL S C t = seen S C t := by unfold peekL; rw [if_pos hi, Int.toNat_natCast]
    rw [if_pos hi, hpk]
    cases hl : lineAt C.L t with
    | some l =>
      obtain ⟨hlm, hls⟩ := lineAt_mem hl
      obtain ⟨i, hil⟩ := List.getElem?_of_mem hlm
      have hfi := rfind_at h hil
      rw [hls] at hfi
      have hsn : seen S C t = l.dat := by unfold seen; rw [hl]
      rw [hsn]
      obtain ⟨ao, cap, hv⟩ := h.form
      obtain ⟨x, hx, e1, e2, e3⟩ := h.sim.get' hil
      obtain ⟨g, rfl, hg, k0, k1, k2, kf⟩ := h.at_ hv hx
      obtain ⟨_, _, xg, xc, hxv⟩ := h.xone (List.mem_of_getElem? hx)
      have hok := h.ok l hlm
      have hxd := h.xd x (List.mem_of_getElem? hx)
      rw [hxv] at k1 hxd
      rw [e2] at hxd
      have hby := K.rbytes_row hxd hok.2
      rw [← hok.2.len] at hby
      have c3 : w.cell? ⟨A.q, 3, none⟩ = some (.slice (some ⟨g, 0, none⟩) A.X.length cap) := by rw [← hv]; exact h.c 3
      have hx1 := h.x1024
      have hln := h.ln
      have hil2 := (List.getElem?_eq_some_iff.1 hil).1
      have hiz : (i : Int) < (A.X.length : Int) := by omega
      have hi0 : (i : Int) ≥ 0 := by omega
      have HBy : Hid (Calls Tryz.prog 50 #[.slice (some ⟨xg, 0, none⟩) 512 xc] w fun e w' => ∃ v', e = .returned v' ∧ w'.ownsRow w.heap.size 5 1 v' (List.length l.dat) (l.dat.map bv) ∧ Below w.heap.size w w') := by rw [hok.2.len]; exact K.rbytes_row hxd hok.2
      generalize A.X.length = n at *
      clear h hq hl hlm hls hil hv hln hil2 hx e1 e2 e3 hg kf hxv hok hxd hby hpk hsn k0 k2
      go_enter Tryz.func82, Tryz.ntmps82
      go_wp2_with (first | (go_at_call 47; refine hha.mono ?_; rintro e w9 ⟨rfl, hw9⟩; rw [hw9]; clear hw9 hha) | (go_at_call 48; refine hfi.mono ?_; rintro e w9 ⟨rfl, hw9⟩; rw [hw9]; clear hw9 hfi) | (go_at_call 50; refine HBy.out.mono ?_; rintro e w5 ⟨v5, rfl, ho5, hb5⟩))
      refine bodyPost_ret (results_tmp2 rfl _ _ _) rfl ?_
      exact ⟨v5, rfl, ho5, hb5⟩
    | none =>
      have hfi := rfind_none h hl
      have hsn : seen S C t = K.look S t := by unfold seen; rw [hl]
      rw [hsn]
      have hlk := K.rLook_any h.rr (by simp only [Qa.pot] at hq; omega) (by simp only [Qa.pot] at hq; omega) ht
      have hlen := (look_okR h.rr ht).len
      have HLk : Hid (Calls Tryz.prog 103 #[.pointer (some ⟨A.p, 0, none⟩), .int .i64 t] w fun r w' => ∃ v, r = .returned v ∧ w'.ownsRow w.heap.size 5 1 v (List.length (K.look S t)) ((K.look S t).map bv) ∧ Below w.heap.size w w') := by rw [hlen]; exact hlk
      clear h hq hl hsn hpk hlk hlen
      go_enter Tryz.func82, Tryz.ntmps82
      go_wp2_with (first | (go_at_call 47; refine hha.mono ?_; rintro e w9 ⟨rfl, hw9⟩; rw [hw9]; clear hw9 hha) | (go_at_call 48; refine hfi.mono ?_; rintro e w9 ⟨rfl, hw9⟩; rw [hw9]; clear hw9 hfi) | (go_at_call 103; refine HLk.out.mono ?_; rintro e w5 ⟨v5, rfl, ho5, hb5⟩))
      refine bodyPost_ret (results_tmp2 rfl _ _ _) rfl ?_
      exact ⟨v5, rfl, ho5, hb5⟩
  · have hi' : K.inD S.n s = false := by simpa using hi
    rw [hi'] at hha
    have hpk : peekL S C s = [] := by unfold peekL; rw [if_neg hi]
    rw [if_neg hi, hpk]
    clear h hq hpk hi hi'
    go_enter Tryz.func82, Tryz.ntmps82
    go_wp2_with (go_at_call 47; refine hha.mono ?_; rintro e w9 ⟨rfl, hw9⟩; rw [hw9]; clear hw9 hha)
    refine bodyPost_ret (results_tmp2 rfl _ _ _) rfl ?_
    exact ⟨_, rfl, World.ownsRow_nil _ _ _ _, Below.refl _ _⟩
end
abbrev TLq : TypeId := 51
abbrev TLqs : TypeId := 45
/-- lines that were told -/
def lcell (l : Ln) : List Value := [.int .i64 l.sec, .bool l.dirty, .bool l.note]
def lcellsT (L : List Ln) : List Value := L.flatMap lcell
theorem infoLq : (Tryz.prog.info? TLq).map (fun i => (i.zero, i.size, i.bytes)) = some (some (.agg #[.int .i64 0, .bool false, .bool false]), 3, 16) := by kernel_rfl
theorem run_oneq (w : World) (s : Int) (d n : Bool) : (Instr.buildSlice TLqs 1 #[(0, .agg #[.int .i64 s, .bool d, .bool n])]).run Tryz.prog w = .ok (.slice (some ⟨w.heap.size, 0, none⟩) 1 1) (w.alloc (.cells #[.int .i64 s, .bool d, .bool n] TLq)) := by
  obtain ⟨i0, hi, hz0, hz1, hz2⟩ := info_parts infoLq
  refine run_buildSlice w TLqs TLq 1 _ _ i0 _ Tryz.underlying45 hi hz0 (by rw [hz1]; decide) (by rw [hz1]; decide) ?_
  rw [hz1]
  generalize hA : (#[.int .i64 s, .bool d, .bool n] : Array Value) = A
  have hAs : A.size = 3 := by rw [← hA]; rfl
  obtain ⟨r, e, hs, g⟩ := K.fill_one (place := fun i => some (i * 3, 3)) (cells := (Array.range (1 * 3)).map ((Value.agg #[.int .i64 0, .bool false, .bool false]).cells[· % (Value.agg #[.int .i64 0, .bool false, .bool false]).cells.size]!)) (i := 0) (off := 0) (v := .agg A) (rest := []) (by simp [Value.cells, hAs]) (by simp [Value.cells, hAs])
  show Instr.fill _ _ [(0, Value.agg A)] = _
  rw [e]
  show some r = _
  congr 1
  apply Array.ext_getElem?
  intro j
  rw [g j]
  simp only [Value.cells, hAs]
  by_cases hk : 0 ≤ j ∧ j < 0 + 3
  · rw [if_pos hk]; rfl
  · rw [if_neg hk, Array.getElem?_eq_none (by simp; omega), Array.getElem?_eq_none (by rw [hAs]; omega)]
theorem lcellsT_len (L : List Ln) : (lcellsT L).length = L.length * 3 := by
  induction L with
  | nil => rfl
  | cons x X ih =>
    have : lcellsT (x :: X) = lcell x ++ lcellsT X := by simp [lcellsT]
    rw [this, List.length_append, ih]; simp [lcell]; omega
theorem lcellsT_get : ∀ {L : List Ln} {i : Nat} {l : Ln}, L[i]? = some l → (lcellsT L)[i * 3]? = some (.int .i64 l.sec) ∧ (lcellsT L)[i * 3 + 1]? = some (.bool l.dirty) ∧ (lcellsT L)[i * 3 + 2]? = some (.bool l.note)
  | [], i, x, h => by simp at h
  | y :: r, 0, x, h => by simp at h; subst h; exact ⟨rfl, rfl, rfl⟩
  | y :: r, i + 1, x, h => by
    have ih := lcellsT_get (L := r) (i := i) (by simpa using h)
    have e : lcellsT (y :: r) = lcell y ++ lcellsT r := by simp [lcellsT]
    have l3 : (lcell y).length = 3 := rfl
    rw [e, List.getElem?_append_right (by omega), List.getElem?_append_right (by omega), List.getElem?_append_right (by omega), l3]
    rw [show (i + 1) * 3 - 3 = i * 3 by omega, show (i + 1) * 3 + 1 - 3 = i * 3 + 1 by omega, show (i + 1) * 3 + 2 - 3 = i * 3 + 2 by omega]
    exact ih
section
variable {w w' : World} {A : Qa} {S S' : K.Dk} {C C' : Ch}
set_option maxHeartbeats 8000000 in
theorem rLines_any (h : RQ w A S C) :
    Calls Tryz.prog 12 #[.pointer (some ⟨A.q, 0, none⟩)] w fun r w' => ∃ v, r = .returned v ∧ w'.ownsRow w.heap.size TLq 3 v C.L.length (lcellsT C.L) ∧ Below w.heap.size w w' := by
  obtain ⟨i0, hi0, hz0, hz1, hz2⟩ := info_parts infoLq
  obtain ⟨ao, cap, hv⟩ := h.form
  have hx1 := h.x1024
  have hln := h.ln
  have c3 : ∀ W, Below w.heap.size w W → W.cell? ⟨A.q, 3, none⟩ = some (.slice ao A.X.length cap) := fun W hb => by rw [← hv]; exact (h.later hb).c 3
  have HS : Hid (∀ W, Below w.heap.size w W → ∀ (i : Nat) l, C.L[i]? = some l → ∃ g, ao = some ⟨g, 0, none⟩ ∧ W.cell? ⟨g, i * 3, none⟩ = some (.int .i64 l.sec) ∧ W.cell? ⟨g, i * 3 + 2, none⟩ = some (.bool l.dirty)) := fun W hb i l hl => (h.later hb).see hv hl
  have HNo : Hid (∀ W, Below w.heap.size w W → ∀ l, l ∈ C.L → Calls Tryz.prog 38 #[.pointer (some ⟨A.q, 0, none⟩), .int .i64 l.sec] W fun r w' => r = .returned (.bool l.note) ∧ ∃ q', w' = W.drewN q') := fun W hb l hl => by
    have := rnote_any (h.later hb) (s := (l.sec : Int)) (by have := (h.ok l hl).1; have := h.rr.n1; omega)
    refine this.mono ?_
    rintro r w' ⟨rfl, q', rfl⟩
    exact ⟨by rw [h.nt l hl], q', rfl⟩
  obtain ⟨n, hn⟩ : ∃ n, n = A.X.length := ⟨_, rfl⟩
  rw [← hn] at c3 hx1 hln
  have HLn : Hid (n = C.L.length) := hln
  clear h hv hn hln
  go_enter Tryz.func12, Tryz.ntmps12
  go_wp2
  go_loopw [3, 4] (fun lv iv wk => ∃ (i : Nat), i ≤ n ∧ iv = .int .i64 i ∧ Hid (wk.ownsRow w.heap.size TLq 3 lv i (lcellsT (C.L.take i))) ∧ Hid (Below w.heap.size w wk)) (fun _ iv _ => n - (intOf iv).toNat)
  case atStart => exact ⟨0, Nat.zero_le _, rfl, by show World.ownsRow _ _ _ _ _ _ _; simp [lcellsT]; exact World.ownsRow_nil _ _ _ _, Below.refl _ _⟩
  case round =>
    obtain ⟨i, hi, rfl, HL, HB⟩ := hrel
    have d3 := c3 wr HB.out
    by_cases hlt : i < n
    · have hiz : (i : Int) < (n : Int) := by omega
      obtain ⟨l, hl⟩ : ∃ l, C.L[i]? = some l := ⟨_, List.getElem?_eq_getElem (by have := HLn.out; omega)⟩
      obtain ⟨g, rfl, k0, k2⟩ := HS.out wr HB.out i l hl
      have hno := HNo.out wr HB.out l (List.mem_of_getElem? hl)
      obtain ⟨ao5, c5, rfl⟩ := K.own_slice HL.out
      have HTk : Hid (C.L.take (i + 1) = C.L.take i ++ [l]) := by show _ = _; rw [List.take_add_one, hl]; rfl
      have hsz := HB.out.size
      clear hl
      go_wp2_with fail
      refine Calls.mono hno ?_
      clear hno
      rintro r wk ⟨rfl, q', hwk⟩
      have e0 : wk.cell? ⟨g, i * 3, none⟩ = some (.int .i64 l.sec) := by rw [hwk]; exact k0
      have e2 : wk.cell? ⟨g, i * 3 + 2, none⟩ = some (.bool l.dirty) := by rw [hwk]; exact k2
      have e3 : wk.cell? ⟨A.q, 3, none⟩ = some (.slice (some ⟨g, 0, none⟩) n cap) := by rw [hwk]; exact d3
      have hs2 : wk.heap.size = wr.heap.size := by rw [hwk]; rfl
      have HL2 : Hid (wk.ownsRow w.heap.size TLq 3 (.slice ao5 i c5) i (lcellsT (C.L.take i))) := by show World.ownsRow _ _ _ _ _ _ _; rw [hwk]; exact HL.out
      have HB2 : Hid (Below w.heap.size w wk) := by show Below _ _ _; rw [hwk]; exact HB.out.trans ((K.below_drewN wr q').mono HB.out.size)
      have hone := run_oneq wk l.sec l.dirty l.note
      have hone2 := run_oneq wk.drew l.sec l.dirty l.note
      have hsd : wk.drew.heap.size = wk.heap.size := rfl
      clear hwk k0 k2 d3 HL HB hsz hs2
      have e0d : wk.drew.cell? ⟨g, i * 3, none⟩ = some (.int .i64 l.sec) := e0
      have e2d : wk.drew.cell? ⟨g, i * 3 + 2, none⟩ = some (.bool l.dirty) := e2
      have e3d : wk.drew.cell? ⟨A.q, 3, none⟩ = some (.slice (some ⟨g, 0, none⟩) n cap) := e3
      go_wp2
      have HBl : Hid (Below w.heap.size w (wk.alloc (.cells #[.int .i64 l.sec, .bool l.dirty, .bool l.note] TLq)).drew) := HB2.out.trans ((((Below.refl _ wk).alloc (Nat.le_refl _) _).trans ((K.below_drew _).mono (by rw [World.size_alloc]; omega))).mono HB2.out.size)
      have HLl : Hid ((wk.alloc (.cells #[.int .i64 l.sec, .bool l.dirty, .bool l.note] TLq)).drew.ownsRow w.heap.size TLq 3 (.slice ao5 i c5) i (lcellsT (C.L.take i))) := K.ownsRow_block (HL2.out.alloc _) (fun _ _ => rfl)
      have HNl : Hid (∀ j u, (lcell l)[j]? = some u → (wk.alloc (.cells #[.int .i64 l.sec, .bool l.dirty, .bool l.note] TLq)).drew.cell? ((⟨wk.heap.size, 0, none⟩ : Addr).add j) = some u) := World.news_of_block (w := (wk.alloc (.cells #[.int .i64 l.sec, .bool l.dirty, .bool l.note] TLq)).drew) (heap_alloc_new wk _)
      have HOl : Hid (∀ u ∈ lcell l, u.oneCell' = true) := fun u hu => by simp [lcell] at hu; rcases hu with rfl | rfl | rfl <;> rfl
      go_region_law (first | (refine step_append_lies _ (by rfl) _ _ TLqs (by rfl) w.heap.size TLq i0 _ 3 16 Tryz.underlying45 hi0 hz0 hz1 hz2 (by rfl) (by decide) (.slice ao5 i c5) i (lcellsT (C.L.take i)) (by rfl) HLl.out ⟨wk.heap.size, 0, none⟩ 1 1 (lcell l) (by rfl) (by rfl) HNl.out HOl.out (by decide) (by unfold maxLen; omega) (by omega) HBl.out.size _ rfl ?_; intro g' cap' w6 hown' hgrow hat hlt'; have HL6 : Hid (w6.ownsRow w.heap.size TLq 3 (.slice (some ⟨g', 0, none⟩) (i + 1) cap') (i + 1) (lcellsT (C.L.take (i + 1)))) := (by show World.ownsRow _ _ _ _ _ _ _; rw [HTk.out]; simpa [lcellsT] using hown'); have HB6 : Hid (Below w.heap.size w w6) := (HBl.out.grown hgrow HBl.out.size (fun q e => row_base HL2.out e)); clear hown' hgrow hat hlt'))
      all_goals go_wp2
      all_goals go_roundw
      all_goals first | (exact ⟨i + 1, by omega, by go_num, HL6, HB6⟩) | (simp [intOf]; omega)
    · have hiz : ¬ (i : Int) < (n : Int) := by omega
      have HE : Hid (C.L.take i = C.L ∧ i = C.L.length) := ⟨List.take_of_length_le (by have := HLn.out; omega), by have := HLn.out; omega⟩
      go_wp2
      go_ret
      refine ⟨_, rfl, ?_, HB.out⟩
      have h1 := HL.out
      rw [HE.out.1] at h1
      rw [← HE.out.2]
      exact h1
end
end Go.Proofs.YtlacligofhinmaaGreat.C
