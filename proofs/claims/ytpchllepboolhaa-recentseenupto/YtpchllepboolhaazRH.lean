import Derived.Test.YtpchllepboolhaaV14
import Derived.Test.YtpchllepboolhaaRHm
import Derived.Maps.AppendAt
namespace Go.Proofs.Ytpchllepboolhaa
open Go.RowKit
attribute [local go_sem] Oper.semAt_some
set_option linter.unusedVariables false
set_option linter.unusedSimpArgs false
set_option maxRecDepth 100000

abbrev TIn : TypeId := 3
abbrev TIns : TypeId := 43
abbrev iv (l : List Int) : List Value := l.map (Value.int .i64)
theorem infoInt : (Try.prog.info? TIn).map (fun i => (i.zero, i.size, i.bytes)) = some (some (.int .i64 0), 1, 8) := by kernel_rfl
theorem ownsRow_drewN {w : World} {base : Nat} {e : TypeId} {size : Nat} {v : Value} {n : Nat} {xs : List Value} (h : w.ownsRow base e size v n xs) : ∀ q, (w.drewN q).ownsRow base e size v n xs
  | 0 => h
  | q + 1 => ownsRow_drewN (w := w.drew) h.drew q
theorem below_drewN (w : World) (q : Nat) : Below w.heap.size w (w.drewN q) := by
  have : ∀ (q : Nat) (w : World), (w.drewN q).os = w.os ∧ (w.drewN q).tape = w.tape ∧ (w.drewN q).output = w.output ∧ (w.drewN q).heap = w.heap := by
    intro q
    induction q with
    | zero => intro w; exact ⟨rfl, rfl, rfl, rfl⟩
    | succ q ih => intro w; exact ih w.drew
  obtain ⟨h1, h2, h3, h4⟩ := this q w
  exact ⟨h1, h2, h3, by rw [h4]; exact Nat.le_refl _, fun i _ => by rw [h4]⟩
theorem row_ints {W : World} {B : Nat} {v : Value} {ks : List Int} (h : W.ownsRow B TIn 1 v ks.length (iv ks)) : (ks = [] ∧ v = .slice none 0 0) ∨ ∃ gv off cap, v = .slice (some ⟨gv, off, none⟩) ks.length cap ∧ ∀ j u, (iv ks)[j]? = some u → W.cell? ((⟨gv, off, none⟩ : Addr).add j) = some u := by
  rcases h.2 with ⟨rfl, h0⟩ | ⟨gv, cap, cur, rfl, hb, hg, hc, _, hsz, ht⟩
  · exact .inl ⟨List.length_eq_zero_iff.1 h0, rfl⟩
  · exact .inr ⟨gv, 0, cap, rfl, h.cells (g := gv) rfl⟩
def memB (u : Int) (l : List Int) : Bool := decide (u ∈ l)
theorem app1 {w : World} {B : Nat} {u : Int} (hB : B ≤ w.heap.size) : (w.alloc (.cells #[.int .i64 u] TIn)).ownsRow B TIn 1 (.slice (some ⟨w.heap.size, 0, none⟩) 1 1) 1 [.int .i64 u] :=
  ⟨rfl, .inr ⟨_, 1, _, rfl, hB, heap_alloc_new w _, Nat.le_refl _, by decide, rfl, rfl⟩⟩

set_option maxHeartbeats 4000000 in
theorem held_any (n : Int) (ao : Option Addr) (c m : Nat) (us : List Int) (w : World) (hn1 : 1 ≤ n) (hn2 : n ≤ 9223372036854775807) (HM : Hid (m = us.length)) (hl : m ≤ 17592186044416) (HU : Hid (IRow w ao us)) :
    Calls Try.prog 37 #[.int .i64 n, .slice ao m c] w fun e w' => ∃ v, e = .returned v ∧ w'.ownsRow w.heap.size TIn 1 v (held n.toNat us).length (iv (held n.toNat us)) ∧ Below w.heap.size w w' := by
  obtain ⟨i0, hi, hz0, hz1, hz2⟩ := info_parts infoInt
  rw [← heldR_held]
  have hm1 : (0 : Int) ≤ (m : Int) := by omega
  have hm2 : (m : Int) ≤ 17592186044416 := by omega
  go_enter Try.func37, Try.ntmps37
  go_wp2
  go_loopw [5, 6] (fun t i wr => ∃ (j : Nat) (l : List Int), j ≤ m ∧ l.length + j ≤ m ∧ i = .int .i64 ((j : Int) - 1) ∧ Hid (wr.ownsRow w.heap.size TIn 1 t l.length (iv l)) ∧ Hid (heldR n.toNat (us.take j).reverse l = heldR n.toNat us.reverse []) ∧ Hid (Below w.heap.size w wr)) (fun _ i _ => (intOf i + 1).toNat)
  case atStart => exact ⟨m, [], Nat.le_refl _, by simp, rfl, World.ownsRow_nil _ _ _ _, by rw [HM.out, List.take_length]; rfl, Below.refl _ _⟩
  case round =>
    obtain ⟨j, l, hj, hlj, rfl, HR, HH, HB⟩ := hrel
    obtain ⟨la, lc, rfl, hir⟩ := irow_of HR.out
    have HI : Hid (IRow wr la l) := hir
    obtain ⟨k0, hk0⟩ : ∃ k0, k0 = l.length := ⟨_, rfl⟩
    have HL : Hid (k0 = l.length) := hk0
    rw [← hk0] at hlj ⊢
    clear hk0 hir
    by_cases hj0 : 0 < j
    · by_cases hkn : (k0 : Int) < n
      · obtain ⟨i, rfl⟩ : ∃ i, j = i + 1 := ⟨j - 1, by omega⟩
        rw [show ((i + 1 : Nat) : Int) - 1 = (i : Int) by omega]
        obtain ⟨u, hu⟩ : ∃ u, us[i]? = some u := ⟨_, List.getElem?_eq_getElem (by have := HM.out; omega)⟩
        obtain ⟨b, off, rfl, hcu⟩ := HU.out.c _ _ hu
        have HCU : Hid (wr.cell? ⟨b, off + i, none⟩ = some (.int .i64 u)) := cell_later HB.out hcu
        have HT : Hid ((us.take (i + 1)).reverse = u :: (us.take i).reverse) := by
          show _ = _
          rw [take_snoc hu]; simp
        have b1 : (0 : Int) ≤ (i : Int) := by omega
        have b2 : (i : Int) < (m : Int) := by omega
        clear hcu hu hj0
        go_wp2
        go_loopw [7, 8] (fun t k wq => ∃ (k' q : Nat), k' ≤ k0 ∧ k = .int .i64 k' ∧ t = .bool (memB u (l.take k')) ∧ wq = wr.drewN q) (fun _ k _ => k0 - (intOf k).toNat)
        case atStart => exact ⟨0, 0, Nat.zero_le _, rfl, by simp [memB], rfl⟩
        case round =>
          obtain ⟨k, q, hk, rfl, rfl, rfl⟩ := hrel
          by_cases hlt : k < k0
          · obtain ⟨x, hx⟩ : ∃ x, l[k]? = some x := ⟨_, List.getElem?_eq_getElem (by have := HL.out; omega)⟩
            obtain ⟨b', off', rfl, hcx⟩ := HI.out.c _ _ hx
            have hcu := HCU.out
            have d1 : (k : Int) < (k0 : Int) := by omega
            have HN : Hid (memB u (l.take (k + 1)) = (memB u (l.take k) || x == u)) := by
              show _ = _
              rw [take_snoc hx]
              unfold memB
              by_cases e1 : u ∈ l.take k
              · simp [e1]
              · by_cases e2 : x = u
                · subst e2; simp [e1]
                · have : u ≠ x := fun e => e2 e.symm
                  have e3 : (x == u) = false := by simpa using e2
                  simp [e1, this, e3]
            clear hx
            cases hme : memB u (l.take k)
            · rw [hme] at HN
              cases hxu : (x == u)
              all_goals
                rw [hxu] at HN
                clear hme
                go_wp2
                go_quiet (fail)
                go_wp2
                go_roundw
                case rel => exact ⟨k + 1, q + nq, by omega, by go_num, by rw [HN.out]; first | rfl | (rw [hxu]; rfl), by first | rfl | rw [World.drewN_drewN]⟩
                case measure => simp [intOf]; omega
            · rw [hme] at HN
              clear hme
              go_wp2
              go_quiet (fail)
              go_wp2
              go_roundw
              case rel => exact ⟨k + 1, q + nq, by omega, by go_num, by rw [HN.out]; rfl, by first | rfl | rw [World.drewN_drewN]⟩
              case measure => simp [intOf]; omega
          · have e : k = k0 := by omega
            subst e
            have HE : Hid (l.take k = l) := by rw [HL.out]; exact List.take_length
            have hbq : Below wr.heap.size wr (wr.drewN q) := below_drewN wr q
            have HRq : Hid ((wr.drewN q).ownsRow w.heap.size TIn 1 (.slice la l.length lc) l.length (iv l)) := ownsRow_drewN HR.out q
            have HBq : Hid (Below w.heap.size w (wr.drewN q)) := HB.out.trans (hbq.mono HB.out.size)
            have hcu := cell_later hbq HCU.out
            have HS : Hid (heldR n.toNat (u :: (us.take i).reverse) l = if memB u l = true then heldR n.toNat (us.take i).reverse l else heldR n.toNat (us.take i).reverse (u :: l)) := by
              show _ = _
              rw [heldR, if_pos (by have := HL.out; omega)]
              unfold memB
              by_cases e : u ∈ l <;> simp [e]
            rw [HE.out]
            rw [HT.out, HS.out] at HH
            generalize wr.drewN q = W at *
            clear HS HE HI HCU HR HB hbq
            cases hme : memB u l
            · rw [hme] at HH
              simp only [Bool.false_eq_true, if_false] at HH
              clear hme
              have hsz := HBq.out.size
              rcases row_ints HRq.out with ⟨hnil, hsl⟩ | ⟨gv, off', cap', hsl, hcs⟩
              · have HNil : Hid (l = []) := hnil
                simp only [Value.slice.injEq] at hsl
                obtain ⟨rfl, _, rfl⟩ := hsl
                clear hnil
                have hk00 : k = 0 := by have := HL.out; rw [HNil.out] at this; exact this
                subst hk00
                go_wp2
                go_roundw
                case rel => exact ⟨i, [u], by omega, by simp; omega, rfl, app1 hsz, by have := HH.out; rw [HNil.out] at this; exact this, HBq.out.alloc hsz _⟩
                case measure => simp [intOf]
              · have HCS : Hid (∀ j u, (iv l)[j]? = some u → W.cell? ((⟨gv, off', none⟩ : Addr).add j) = some u) := hcs
                simp only [Value.slice.injEq] at hsl
                obtain ⟨rfl, _, rfl⟩ := hsl
                clear hcs
                go_wp2_with (at_builtin; refine wpList_append_own_at _ rfl _ _ TIns rfl w.heap.size TIn i0 _ 1 8 Try.underlying43 hi hz0 hz1 hz2 rfl (by decide) _ 1 [.int .i64 u] rfl (app1 hsz) ⟨gv, off', none⟩ k lc (iv l) rfl (by simp [HL.out]) (fun j u hu => cell_later ((Below.refl _ W).alloc (Nat.le_refl _) _) (HCS.out j u hu)) (ints_oneCell .i64 l) (by unfold maxLen; omega) (by omega) (by rw [World.size_alloc]; omega) ?_; intro v' w1 hown' hgrow hnl hat)
                go_roundw
                case rel =>
                  refine ⟨i, u :: l, by omega, by have := HL.out; simp; omega, rfl, ?_, HH, ?_⟩
                  · have : (u :: l).length = 1 + k := by have := HL.out; simp; omega
                    rw [this]; exact hown'
                  · exact (HBq.out.alloc hsz _).grown hgrow (by rw [World.size_alloc]; omega) (fun q e => by have e' : some W.heap.size = some q := e; cases e'; exact hsz)
                case measure => simp [intOf]
            · rw [hme] at HH
              simp only [if_true] at HH
              clear hme
              go_wp2
              go_roundw
              case rel => exact ⟨i, l, by omega, by have := HL.out; omega, rfl, by have := HRq.out; rw [← HL.out] at this; rw [← HL.out]; exact this, HH, HBq⟩
              case measure => simp [intOf]
      · have HE : Hid (heldR n.toNat (us.take j).reverse l = l) := by
          show _ = _
          have hk2 : ¬ l.length < n.toNat := by have := HL.out; omega
          cases (us.take j).reverse with
          | nil => rfl
          | cons u R => rw [heldR, if_neg hk2]
        rw [HE.out] at HH
        clear HE
        have b1 : (0 : Int) ≤ (j : Int) - 1 := by omega
        go_wp2
        go_ret
        refine ⟨_, rfl, ?_, HB.out⟩
        rw [← HH.out]; have := HR.out; rw [← HL.out] at this ⊢; exact this
    · have e : j = 0 := by omega
      subst e
      have HE : Hid (heldR n.toNat (us.take 0).reverse l = l) := rfl
      rw [HE.out] at HH
      clear HE
      go_wp2
      go_ret
      refine ⟨_, rfl, ?_, HB.out⟩
      rw [← HH.out]; have := HR.out; rw [← HL.out] at this ⊢; exact this
end Go.Proofs.Ytpchllepboolhaa
