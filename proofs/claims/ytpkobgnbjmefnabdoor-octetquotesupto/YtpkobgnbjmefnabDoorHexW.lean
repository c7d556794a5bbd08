import Derived.Test.YtpkobgnbjmefnabDoorHexF
namespace Go.Proofs.YtpkobgnbjmefnabDoor
open Go.RowKit
set_option linter.unusedVariables false
set_option maxRecDepth 100000

theorem and15 (x : Nat) (hx : x < 256) : bits .and .u8 (x : Int) 15 = ((x % 16 : Nat) : Int) := by
  have := u8_and_nat x 15 hx (by decide)
  rw [show x &&& 15 = x % 16 from Nat.and_two_pow_sub_one_eq_mod x 4] at this
  exact this
theorem hexStr_all : ∀ q : Fin 16, ((⟨#[48, 49, 50, 51, 52, 53, 54, 55, 56, 57, 97, 98, 99, 100, 101, 102]⟩ : ByteArray)[q.val]'(by exact q.isLt)).toNat = dig q.val := by decide
theorem hexStr_get (q : Nat) (hq : q < 16) (h : q < (⟨#[48, 49, 50, 51, 52, 53, 54, 55, 56, 57, 97, 98, 99, 100, 101, 102]⟩ : ByteArray).size) : ((⟨#[48, 49, 50, 51, 52, 53, 54, 55, 56, 57, 97, 98, 99, 100, 101, 102]⟩ : ByteArray)[q]'h).toNat = dig q := hexStr_all ⟨q, hq⟩

theorem news_two (W : World) (a b : Value) (e : TypeId) : ∀ j u, [a, b][j]? = some u → (W.alloc (.cells #[a, b] e)).cell? ((⟨W.heap.size, 0, none⟩ : Addr).add j) = some u := by
  intro j u hu
  rw [add_plain, Nat.zero_add, World.cell?_alloc_mark]
  simpa using hu
/-- a call of a function that changes nothing, as one step of a region that draws -/
theorem step_call_pure {P : Program} {ops : Array Oper} {o : Oper} {a : Act} {w : World} {K : Act → World → Prop} {Q : Exit → Act → World → Prop} {E : Prop}
    (hg : o.guard = none) (f : FuncId) (x : Operand) (t : TypeId) (hop : o.op = Op.call { callee := Callee.value (Operand.func f), args := #[x], argTypes := #[t] })
    (fn : Func) (hfn : P.funcs[f]? = some fn) (hnm : ¬ fn.name = "runtime.NumGoroutine") (hbd : ¬ fn.body = none) (arg v : Value) (hx : a.eval x = arg) (hc : Calls P f #[arg] w fun e w' => e = .returned v ∧ w' = w) (hK : K (a.put o.dst v) w) :
    if Region.wanted o (yielded ops a.tmps) = true then Oper.wp P o a w K Q else E := by
  have hw : Region.wanted o (yielded ops a.tmps) = true := by simp [Region.wanted, hg]
  rw [if_pos hw]
  have hr : (execOp a.eval o).run P w = .ok (.enter f #[arg]) w := by
    have hf : a.eval (.func f) = .func (.func f) #[] #[] := rfl
    unfold execOp
    simp [hop, resolve, invoke, hx, hf, Deferred.ofValue, callFunc, Result.andThen, hfn, hnm, hbd]
  unfold Oper.wp
  rw [hr, Oper.upon_enter]
  refine hc.mono ?_
  rintro e w' ⟨rfl, rfl⟩
  exact hK
/-- behind an append of two digits -/
theorem grow_row {w wr W0 w' : World} {v v' : Value} {n m : Nat} {xs ys : List Nat} {news : List Value} (hb : Below w.heap.size w wr) (ho : wr.ownsRow w.heap.size 5 1 v n (xs.map bv)) (h0 : Below wr.heap.size wr W0)
    (h1 : w'.ownsRow w.heap.size 5 1 v' m (xs.map bv ++ news)) (h2 : W0.grownBy w' v.ownBlock) (hy : ys.map bv = news) : w'.ownsRow w.heap.size 5 1 v' m ((xs ++ ys).map bv) ∧ Below w.heap.size w w' := by
  refine ⟨by rw [List.map_append, hy]; exact h1, ?_⟩
  exact (hb.trans (h0.mono hb.size)).grown h2 (Nat.le_trans hb.size h0.size) (fun g hg => (owns_lt ho g hg).2)

set_option maxHeartbeats 1000000 in
theorem hex_some (b off cap n : Nat) (l : List Nat) (w : World) (hn : n ≤ 16777216) (HN : Hid (l.length = n)) (HC : Hid (∀ k, k < n → w.cell? ⟨b, off + k, none⟩ = some (.int .u8 ((l[k]?.getD 0 : Nat) : Int)))) (HL : Hid (∀ x ∈ l, x < 256)) :
    Calls Tryd.prog 33 #[.slice (some ⟨b, off, none⟩) n cap] w fun e w' => e = .returned (.string (bstr (hexL l))) ∧ Below w.heap.size w w' := by
  obtain ⟨i0, hi, hz0, hz1, hz2⟩ := info_parts Tryd.info5
  go_enter Tryd.func33, Tryd.ntmps33
  go_wp2_with (at_make; refine wpList_make_own _ rfl (.const (.int .i64 0)) (.tmp 8) 37 rfl w.heap.size 5 i0 (.int .u8 0) 1 Tryd.underlying37 hi hz0 hz1 .i64 .i64 _ (2 * n) rfl rfl (by omega) (by rw [hz2]; omega) (by unfold maxLen; omega) (Nat.le_refl _) ?_; intro w1 hown1 hgrow1)
  have HB1 : Hid (Below w.heap.size w w1) := (Below.refl w.heap.size w).grown hgrow1 (Nat.le_refl _) (by simp)
  have HO1 : Hid (w1.ownsRow w.heap.size 5 1 (.slice (some ⟨w.heap.size, 0, none⟩) 0 (2 * n)) 0 []) := hown1
  clear hown1 hgrow1
  go_wp2
  go_loopw [3, 12] (fun v i wr => ∃ k : Nat, k ≤ n ∧ i = .int .i64 k ∧ wr.ownsRow w.heap.size 5 1 v (2 * k) ((hexL (l.take k)).map bv) ∧ Below w.heap.size w wr) (fun _ i _ => n - (intOf i).toNat)
  case atStart => exact ⟨0, Nat.zero_le _, rfl, HO1.out, HB1.out⟩
  case round =>
    obtain ⟨k, hk, rfl, hown, hb⟩ := hrel
    by_cases hlt : k < n
    · obtain ⟨ao, cp, hv⟩ := owns_form hown
      subst hv
      have hc := cell_later hb (HC.out k hlt)
      have hkl : k < l.length := by have := HN.out; omega
      have HE : Hid (hexL (l.take (k + 1)) = hexL (l.take k) ++ [dig ((l[k]?.getD 0) / 16), dig ((l[k]?.getD 0) % 16)]) := by
        show _ = _
        rw [List.take_succ_eq_append_getElem hkl, hexL_snoc]; simp [hkl]
      have hx : l[k]?.getD 0 < 256 := by simp [hkl]; exact HL.out _ (List.getElem_mem hkl)
      clear hkl
      generalize l[k]?.getD 0 = x at *
      have HO : Hid (wr.ownsRow w.heap.size 5 1 (.slice ao (2 * k) cp) (2 * k) ((hexL (l.take k)).map bv)) := hown
      have HB : Hid (Below w.heap.size w wr) := hb
      clear hown hb
      have h16 : x / 16 < 16 := by omega
      have hm16 : x % 16 < 16 := by omega
      have e1 : (x : Int) / 16 = ((x / 16 : Nat) : Int) := by omega
      have e2 : bits .and .u8 (x : Int) 15 = ((x % 16 : Nat) : Int) := and15 x hx
      have d1 := hexStr_get (x / 16) h16
      have d2 := hexStr_get (x % 16) hm16
      generalize x / 16 = q at *
      generalize x % 16 = r at *
      have q1 : (q : Int) < 16 := by omega
      have r1 : (r : Int) < 16 := by omega
      have HG : Hid (∀ ao' cp' w', w'.ownsRow w.heap.size 5 1 (.slice ao' (2 * k + 2) cp') (2 * k + 2) ((hexL (l.take k)).map bv ++ [.int .u8 ((dig q : Nat) : Int), .int .u8 ((dig r : Nat) : Int)]) → (wr.drew.alloc (.cells #[.int .u8 ((dig q : Nat) : Int), .int .u8 ((dig r : Nat) : Int)] 5)).grownBy w' (Value.slice ao (2 * k) cp).ownBlock →
          w'.ownsRow w.heap.size 5 1 (.slice ao' (2 * k + 2) cp') (2 * (k + 1)) ((hexL (l.take (k + 1))).map bv) ∧ Below w.heap.size w w') := fun ao' cp' w' h1 h2 => by
        rw [HE.out]
        exact grow_row HB.out HO.out ((Below.refl _ _).drew.alloc (Nat.le_refl _) _) h1 h2 rfl
      go_wp2
      go_region_law (refine step_append_two rfl (.tmp 16) (.tmp 23) 37 rfl w.heap.size 5 i0 (.int .u8 0) 1 Tryd.underlying37 hi hz0 hz1 hz2 rfl (.slice ao (2 * k) cp) (2 * k) ((hexL (l.take k)).map bv) (by simp [Act.eval]) (HO.out.drew.alloc _) ⟨wr.heap.size, 0, none⟩ 2 2 [.int .u8 ((dig q : Nat) : Int), .int .u8 ((dig r : Nat) : Int)] (by simp [Act.eval]) rfl (news_two wr.drew _ _ _) (by simp [Value.oneCell']) (by unfold maxLen; omega) (by omega) (by have := HB.out.size; simp; omega) ?_; intro ao2 cp2 w2 ho2 hg2 hf2; have HR := HG.out _ _ _ ho2 hg2; have HR2 : Hid (w2.ownsRow w.heap.size 5 1 (.slice ao2 (2 * k + 2) cp2) (2 * (k + 1)) ((hexL (l.take (k + 1))).map bv) ∧ Below w.heap.size w w2) := HR; clear HR ho2 hg2 hf2)
      all_goals
        go_wp2
        go_roundw
        case rel => exact ⟨k + 1, by omega, by go_num, HR2.out.1, HR2.out.2⟩
        case measure => simp [intOf]; omega
    · obtain rfl : k = n := by omega
      have hlen := HN.out
      have e : l.take k = l := List.take_of_length_le (by omega)
      rw [e] at hown
      have hcv : (convert 37 9 u3).run Tryd.prog wr = .ok (.string (bstr (hexL l))) wr := conv_own (by rw [hexL_length, hlen]; exact hown)
      have HB : Hid (Below w.heap.size w wr) := hb
      clear hown hb e hlen
      go_wp2
      go_ret
      exact ⟨rfl, HB.out⟩
set_option maxHeartbeats 1000000 in
theorem hex_nil (ao : Option Addr) (cap : Nat) (w : World) :
    Calls Tryd.prog 33 #[.slice ao 0 cap] w fun e w' => e = .returned (.string ⟨#[]⟩) ∧ Below w.heap.size w w' := by
  obtain ⟨i0, hi, hz0, hz1, hz2⟩ := info_parts Tryd.info5
  go_enter Tryd.func33, Tryd.ntmps33
  go_wp2_with (at_make; refine wpList_make_own _ rfl (.const (.int .i64 0)) (.tmp 8) 37 rfl w.heap.size 5 i0 (.int .u8 0) 1 Tryd.underlying37 hi hz0 hz1 .i64 .i64 _ 0 rfl rfl (by omega) (by rw [hz2]; omega) (by unfold maxLen; omega) (Nat.le_refl _) ?_; intro w1 hown1 hgrow1)
  have HB1 : Hid (Below w.heap.size w w1) := (Below.refl w.heap.size w).grown hgrow1 (Nat.le_refl _) (by simp)
  have hcv : (convert 37 9 (.slice (some ⟨w.heap.size, 0, none⟩) 0 0)).run Tryd.prog w1 = .ok (.string ⟨#[]⟩) w1 := conv_own (l := []) hown1
  clear hown1 hgrow1
  go_wp2
  refine wp_loop_rounds 1 ?_
  rw [rounds_succ]
  go_wp2
  go_ret
  exact ⟨rfl, HB1.out⟩
theorem hex_any (ao : Option Addr) (cap n : Nat) (l : List Nat) (w : World) (h : BRow w ao cap l) (hl : l.length = n) (hn : n ≤ 16777216) :
    Calls Tryd.prog 33 #[.slice ao n cap] w fun e w' => e = .returned (.string (bstr (hexL l))) ∧ Below w.heap.size w w' := by
  by_cases hne : l = []
  · subst hne; subst hl
    exact hex_nil ao cap w
  · obtain ⟨b, off, rfl, hc⟩ := h.at_ hne
    refine hex_some b off cap n l w hn hl (fun k hk => ?_) h.lt
    have hk' : k < l.length := by omega
    have := hc k hk'
    simpa [hk', bv] using this

end Go.Proofs.YtpkobgnbjmefnabDoor
