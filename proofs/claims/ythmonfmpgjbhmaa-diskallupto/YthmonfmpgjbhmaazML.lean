import Derived.Test.YthmonfmpgjbhmaazMK
namespace Go.Proofs.Ythmonfmpgjbhmaa.K
open Go.RowKit Go.Maps Go.Proofs.Ythmonfmpgjbhmaa
attribute [local go_sem] Oper.semAt_some
set_option linter.unusedVariables false
set_option linter.unusedSimpArgs false
set_option maxRecDepth 100000

theorem fcells_at : ∀ {l : List Flt} {i : Nat} {f : Flt}, l[i]? = some f → ∀ j, j < 5 → (fcells l)[i * 5 + j]? = (fcell f)[j]?
  | [], i, f, h, _, _ => by simp at h
  | x :: r, 0, f, h, j, hj => by
    simp at h; subst h
    have e : fcells (x :: r) = fcell x ++ fcells r := by simp [fcells]
    rw [e, Nat.zero_mul, Nat.zero_add, List.getElem?_append_left (by simpa [fcell] using hj)]
  | x :: r, i + 1, f, h, j, hj => by
    have ih := fcells_at (l := r) (i := i) (f := f) (by simpa using h) j hj
    have e : fcells (x :: r) = fcell x ++ fcells r := by simp [fcells]
    have e5 : (fcell x).length = 5 := rfl
    rw [e, List.getElem?_append_right (by omega), e5, show (i + 1) * 5 + j - 5 = i * 5 + j by omega]
    exact ih
set_option maxHeartbeats 4000000 in
theorem sameFaults_yes {W : World} {B B' : Nat} {v v' : Value} {l : List Flt} (h : W.ownsRow B TFa 5 v l.length (fcells l)) (h' : W.ownsRow B' TFa 5 v' l.length (fcells l)) (hl : l.length ≤ 64) :
    Calls Try.prog 74 #[v, v'] W fun r W' => r = .returned (.bool true) ∧ Below W.heap.size W W' := by
  obtain ⟨ao, c, rfl⟩ := own_slice h
  obtain ⟨ao', c', rfl⟩ := own_slice h'
  obtain ⟨n, hn⟩ : ∃ n, n = l.length := ⟨_, rfl⟩
  have HN : Hid (l.length = n) := hn.symm
  rw [← hn] at h h' hl ⊢
  have HR : Hid (W.ownsRow B TFa 5 (.slice ao n c) n (fcells l) ∧ W.ownsRow B' TFa 5 (.slice ao' n c') n (fcells l)) := ⟨h, h'⟩
  clear h h' hn
  go_enter Try.func74, Try.ntmps74
  go_wp2
  go_loopw [5] (fun cc wr => ∃ i : Nat, i ≤ n ∧ cc = .int .i64 i ∧ Hid (Below W.heap.size W wr)) (fun cc _ => n - (intOf cc).toNat)
  case atStart => exact ⟨0, Nat.zero_le _, rfl, Below.refl _ _⟩
  case round =>
    obtain ⟨i, hi, rfl, HB⟩ := hrel
    by_cases hlt : i < n
    · obtain ⟨f, hf⟩ : ∃ f, l[i]? = some f := ⟨_, List.getElem?_eq_getElem (by have := HN.out; omega)⟩
      obtain ⟨g, hg⟩ : ∃ g, ao = some ⟨g, 0, none⟩ := by
        rcases HR.out.1.2 with ⟨e, h0⟩ | ⟨g, cap', cur, e, _⟩
        · omega
        · simp at e; exact ⟨g, e.1⟩
      obtain ⟨g', hg'⟩ : ∃ g, ao' = some ⟨g, 0, none⟩ := by
        rcases HR.out.2.2 with ⟨e, h0⟩ | ⟨g, cap', cur, e, _⟩
        · omega
        · simp at e; exact ⟨g, e.1⟩
      subst hg
      subst hg'
      have hc : ∀ j, j < 5 → wr.cell? ⟨g, i * 5 + j, none⟩ = (fcell f)[j]? := fun j hj => by
        have h1 := ownsRow_block HR.out.1 (w' := wr) (fun x e => HB.out.block x (row_lt HR.out.1 x e).1)
        rw [h1.cellAt (i * 5 + j) (by omega), fcells_at hf j hj]
      have hc' : ∀ j, j < 5 → wr.cell? ⟨g', i * 5 + j, none⟩ = (fcell f)[j]? := fun j hj => by
        have h1 := ownsRow_block HR.out.2 (w' := wr) (fun x e => HB.out.block x (row_lt HR.out.2 x e).1)
        rw [h1.cellAt (i * 5 + j) (by omega), fcells_at hf j hj]
      have q0 : wr.cell? ⟨g, i * 5, none⟩ = some (.int .i64 f.kind) := hc 0 (by decide)
      have q1 : wr.cell? ⟨g, i * 5 + 1, none⟩ = some (.int .i64 f.sector) := hc 1 (by decide)
      have q2 : wr.cell? ⟨g, i * 5 + 2, none⟩ = some (.int .i64 f.after) := hc 2 (by decide)
      have q3 : wr.cell? ⟨g, i * 5 + 3, none⟩ = some (.int .i64 f.times) := hc 3 (by decide)
      have q4 : wr.cell? ⟨g, i * 5 + 4, none⟩ = some (.bool f.land) := hc 4 (by decide)
      have r0 : wr.cell? ⟨g', i * 5, none⟩ = some (.int .i64 f.kind) := hc' 0 (by decide)
      have r1 : wr.cell? ⟨g', i * 5 + 1, none⟩ = some (.int .i64 f.sector) := hc' 1 (by decide)
      have r2 : wr.cell? ⟨g', i * 5 + 2, none⟩ = some (.int .i64 f.after) := hc' 2 (by decide)
      have r3 : wr.cell? ⟨g', i * 5 + 3, none⟩ = some (.int .i64 f.times) := hc' 3 (by decide)
      have r4 : wr.cell? ⟨g', i * 5 + 4, none⟩ = some (.bool f.land) := hc' 4 (by decide)
      clear hc hc' hf
      go_wp2
      go_quiet (fail)
      have HB2 : Hid (Below W.heap.size W (wr.drewN nq)) := HB.out.trans ((below_drewN wr nq).mono HB.out.size)
      go_wp2
      go_roundw
      case rel => exact ⟨i + 1, by omega, by go_num, HB2⟩
      case measure => simp [intOf]; omega
    · have e : i = n := by omega
      subst e
      go_wp2
      go_ret
      exact ⟨rfl, HB.out⟩
set_option maxHeartbeats 4000000 in
theorem SamePuts_yes {W : World} {B B' : Nat} {v v' : Value} {A Q : List Pv} (h : W.ownsRow B TPt 2 v A.length (qcells A)) (h' : W.ownsRow B' TPt 2 v' Q.length (qcells Q)) (hd : ∀ x ∈ A, W.ownsRow 0 5 1 x.2.1 512 (x.2.2.map bv)) (hd' : ∀ x ∈ Q, W.ownsRow 0 5 1 x.2.1 512 (x.2.2.map bv)) (he : A.map bare = Q.map bare) (hok : ∀ x ∈ A, OkB x.2.2) (hl : A.length ≤ 1048576) :
    Calls Try.prog 76 #[v, v'] W fun r W' => r = .returned (.bool true) ∧ Below W.heap.size W W' := by
  have hlen : Q.length = A.length := by have := congrArg List.length he; simpa using this.symm
  rw [hlen] at h'
  obtain ⟨ao, c, rfl⟩ := own_slice h
  obtain ⟨ao', c', rfl⟩ := own_slice h'
  obtain ⟨n, hn⟩ : ∃ n, n = A.length := ⟨_, rfl⟩
  have HN : Hid (A.length = n ∧ Q.length = n) := ⟨hn.symm, by rw [hlen, hn]⟩
  rw [← hn] at h h' hl ⊢
  have HR : Hid (W.ownsRow B TPt 2 (.slice ao n c) n (qcells A) ∧ W.ownsRow B' TPt 2 (.slice ao' n c') n (qcells Q)) := ⟨h, h'⟩
  have HD : Hid (∀ x ∈ A, W.ownsRow 0 5 1 x.2.1 512 (x.2.2.map bv)) := hd
  have HD' : Hid (∀ x ∈ Q, W.ownsRow 0 5 1 x.2.1 512 (x.2.2.map bv)) := hd'
  have HE : Hid (A.map bare = Q.map bare) := he
  have HO : Hid (∀ x ∈ A, OkB x.2.2) := hok
  clear h h' hn hd hd' he hok hlen
  go_enter Try.func76, Try.ntmps76
  go_wp2
  go_loopw [5] (fun cc wr => ∃ i : Nat, i ≤ n ∧ cc = .int .i64 i ∧ Hid (Below W.heap.size W wr)) (fun cc _ => n - (intOf cc).toNat)
  case atStart => exact ⟨0, Nat.zero_le _, rfl, Below.refl _ _⟩
  case round =>
    obtain ⟨i, hi, rfl, HB⟩ := hrel
    by_cases hlt : i < n
    · obtain ⟨x, hx⟩ : ∃ x, A[i]? = some x := ⟨_, List.getElem?_eq_getElem (by have := HN.out.1; omega)⟩
      obtain ⟨y, hy⟩ : ∃ y, Q[i]? = some y := ⟨_, List.getElem?_eq_getElem (by have := HN.out.2; omega)⟩
      obtain ⟨s, u, l⟩ := x
      obtain ⟨s', u', l'⟩ := y
      have hbe : bare (s, u, l) = bare (s', u', l') := by
        have h1 : (A.map bare)[i]? = (Q.map bare)[i]? := by rw [HE.out]
        rw [List.getElem?_map, List.getElem?_map, hx, hy] at h1
        simpa using h1
      simp only [bare, Prod.mk.injEq] at hbe
      obtain ⟨rfl, rfl⟩ := hbe
      obtain ⟨g, hg⟩ : ∃ g, ao = some ⟨g, 0, none⟩ := by
        rcases HR.out.1.2 with ⟨e, h0⟩ | ⟨g, cap', cur, e, _⟩
        · omega
        · simp at e; exact ⟨g, e.1⟩
      obtain ⟨g', hg'⟩ : ∃ g, ao' = some ⟨g, 0, none⟩ := by
        rcases HR.out.2.2 with ⟨e, h0⟩ | ⟨g, cap', cur, e, _⟩
        · omega
        · simp at e; exact ⟨g, e.1⟩
      subst hg
      subst hg'
      have k1 := ownsRow_block HR.out.1 (w' := wr) (fun x e => HB.out.block x (row_lt HR.out.1 x e).1)
      have k2 := ownsRow_block HR.out.2 (w' := wr) (fun x e => HB.out.block x (row_lt HR.out.2 x e).1)
      obtain ⟨q0, q1⟩ := qrow_at k1 hx HN.out.1
      obtain ⟨r0, r1⟩ := qrow_at k2 hy HN.out.2
      simp only at q0 q1 r0 r1
      have hok := HO.out _ (List.mem_of_getElem? hx)
      have d1 := HD.out _ (List.mem_of_getElem? hx)
      have d2 := HD'.out _ (List.mem_of_getElem? hy)
      simp only at hok d1 d2
      obtain ⟨a1, c1, rfl, b1⟩ := own_brow (ownsRow_block d1 (w' := wr) (fun x e => HB.out.block x (row_lt d1 x e).1)) hok.len hok.lt (by decide)
      obtain ⟨a2, c2, rfl, b2⟩ := own_brow (ownsRow_block d2 (w' := wr) (fun x e => HB.out.block x (row_lt d2 x e).1)) hok.len hok.lt (by decide)
      have hs := same_any a1 a2 c1 c2 l l wr.drew (b1.later (below_drew wr)) (b2.later (below_drew wr))
      rw [hok.len, decide_eq_true rfl] at hs
      have HSm2 : Hid (Calls Try.prog 16 #[.slice a1 512 c1, .slice a2 512 c2] wr.drew fun e w' => e = .returned (.bool true) ∧ ∃ q, w' = wr.drew.drewN q) := hs
      clear k1 k2 hx hy hok d1 d2 b1 b2 hs
      have HSd : Hid (Calls Try.prog 16 #[.slice a1 512 c1, .slice a2 512 c2] wr.drew fun e w' => e = .returned (.bool true) ∧ ∃ q, w' = wr.drew.drewN q) := HSm2.out
      go_wp2
      go_region_held3 (fun w' => w'.cell? ⟨g, i * 2 + 1, none⟩ = some (.slice a1 512 c1) ∧ w'.cell? ⟨g', i * 2 + 1, none⟩ = some (.slice a2 512 c2)) (first | go_keep | exact ⟨q1, r1⟩) (first | (go_at_call 16; refine HSd.out.mono ?_; rintro e w2 ⟨rfl, q, rfl⟩))
      go_wp2
      go_quiet (fail)
      go_wp2
      go_roundw
      case rel => exact ⟨i + 1, by omega, by go_num, HB.out.trans ((below_drewN wr _).mono HB.out.size)⟩
      case measure => simp [intOf]; omega
    · have e : i = n := by omega
      subst e
      go_wp2
      go_ret
      exact ⟨rfl, HB.out⟩
set_option maxHeartbeats 4000000 in
theorem kept_yes {W : World} {ao ao' : Option Addr} {c c' n : Nat} {l : List Bool} (h : BoRow W ao c l) (h' : BoRow W ao' c' l) (hn : l.length = n) :
    Calls Try.prog 62 #[.slice ao n c, .slice ao' n c'] W fun r W' => r = .returned (.bool true) ∧ Below W.heap.size W W' := by
  have hl : n ≤ 1048576 := by have := h.len; omega
  have HN : Hid (l.length = n) := hn
  have HR : Hid (BoRow W ao c l ∧ BoRow W ao' c' l) := ⟨h, h'⟩
  clear h h' hn
  go_enter Try.func62, Try.ntmps62
  go_wp2
  go_loopw [5] (fun cc wr => ∃ i : Nat, i ≤ n ∧ cc = .int .i64 i ∧ Hid (Below W.heap.size W wr)) (fun cc _ => n - (intOf cc).toNat)
  case atStart => exact ⟨0, Nat.zero_le _, rfl, Below.refl _ _⟩
  case round =>
    obtain ⟨i, hi, rfl, HB⟩ := hrel
    by_cases hlt : i < n
    · obtain ⟨x, hx⟩ : ∃ x, l[i]? = some x := ⟨_, List.getElem?_eq_getElem (by have := HN.out; omega)⟩
      obtain ⟨g, off, e1, hc⟩ := HR.out.1.at_ (by rintro rfl; have := HN.out; simp at this; omega)
      obtain ⟨g', off', e2, hc'⟩ := HR.out.2.at_ (by rintro rfl; have := HN.out; simp at this; omega)
      subst e1
      subst e2
      have q0 : wr.cell? ⟨g, off + i, none⟩ = some (.bool x) := cell_later HB.out (hc i x hx)
      have q1 : wr.cell? ⟨g', off' + i, none⟩ = some (.bool x) := cell_later HB.out (hc' i x hx)
      clear hc hc' hx
      go_wp2
      go_quiet (fail)
      have HB2 : Hid (Below W.heap.size W (wr.drewN nq)) := HB.out.trans ((below_drewN wr nq).mono HB.out.size)
      go_wp2
      go_roundw
      case rel => exact ⟨i + 1, by omega, by go_num, HB2⟩
      case measure => simp [intOf]; omega
    · have e : i = n := by omega
      subst e
      go_wp2
      go_ret
      exact ⟨rfl, HB.out⟩
end Go.Proofs.Ythmonfmpgjbhmaa.K
