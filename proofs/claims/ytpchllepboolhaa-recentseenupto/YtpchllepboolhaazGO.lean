import Derived.Test.YtpchllepboolhaaV14
import Derived.Test.YtpchllepboolhaazDS
import Derived.BigFrame
import Derived.Laws.OwnMore
namespace Go.Proofs.Ytpchllepboolhaa.D
open Go.RowKit Go.Proofs.Ytpchllepboolhaa.I
attribute [local go_sem] Oper.semAt_some
set_option linter.unusedVariables false
set_option linter.unusedSimpArgs false
set_option maxRecDepth 100000

/-- an order in memory of one's own, told by its keys and pins -/
def Os (w W : World) (bo bm g : Nat) (A : List It) : Prop := ∃ L, RO W bo bm g L ∧ L.map I.kp = A ∧ Below w.heap.size w W ∧ ∀ i ∈ fp bo bm g L, w.heap.size ≤ i
theorem Os.below {w W : World} {bo bm g : Nat} {A : List It} (h : Os w W bo bm g A) : Below w.heap.size w W := by obtain ⟨_, _, _, h, _⟩ := h; exact h
theorem Os.later {w W W' : World} {bo bm g : Nat} {A : List It} (h : Os w W bo bm g A) (hb : Below W.heap.size W W') : Os w W' bo bm g A := by
  obtain ⟨L, h1, h2, h3, h4⟩ := h
  exact ⟨L, h1.later hb, h2, h3.trans (hb.mono h3.size), h4⟩
theorem Os.uniq {w W : World} {bo bm g : Nat} {A : List It} (h : Os w W bo bm g A) : Uniq A := by
  obtain ⟨L, h1, rfl, _⟩ := h
  exact uniq_kp h1
theorem Os.call {w W : World} {bo bm g : Nat} {A : List It} {f : Nat} {kind k : Int} (h : Os w W bo bm g A) (ho : ∀ L, L.map I.kp = A → RO W bo bm g L → OCall f kind W bo bm g L k) :
    Calls Try.prog f #[.pointer (some ⟨bo, 0, none⟩), .int .i64 k] W fun r w' => r = .returned (.bool (ans kind k A)) ∧ Os w w' bo bm g (stp kind k A) := by
  obtain ⟨L, h1, rfl, h3, h4⟩ := h
  refine (ho L rfl h1).mono ?_
  rintro r w' ⟨rfl, L', ha, hA⟩
  obtain ⟨b1, b2⟩ := ha.below h4 h3.size
  exact ⟨rfl, L', ha.ro, hA, h3.trans b1, b2⟩
theorem Os.add {w W : World} {bo bm g : Nat} {A : List It} (h : Os w W bo bm g A) {k : Int} (hk : wfK k) (hl : A.length < maxLen) :
    Calls Try.prog 34 #[.pointer (some ⟨bo, 0, none⟩), .int .i64 k] W fun r w' => r = .returned (.bool (ans 1 k A)) ∧ Os w w' bo bm g (stp 1 k A) := h.call fun L hL h1 => o_add h1 hk (by rw [← hL] at hl; simpa using hl)
theorem Os.touch {w W : World} {bo bm g : Nat} {A : List It} (h : Os w W bo bm g A) {k : Int} (hk : wfK k) :
    Calls Try.prog 30 #[.pointer (some ⟨bo, 0, none⟩), .int .i64 k] W fun r w' => r = .returned (.bool (ans 2 k A)) ∧ Os w w' bo bm g (stp 2 k A) := h.call fun L hL h1 => o_touch h1 hk
theorem Os.drop {w W : World} {bo bm g : Nat} {A : List It} (h : Os w W bo bm g A) {k : Int} (hk : wfK k) :
    Calls Try.prog 33 #[.pointer (some ⟨bo, 0, none⟩), .int .i64 k] W fun r w' => r = .returned (.bool (ans 3 k A)) ∧ Os w w' bo bm g (stp 3 k A) := h.call fun L hL h1 => o_drop h1 hk
theorem Os.pin {w W : World} {bo bm g : Nat} {A : List It} (h : Os w W bo bm g A) {k : Int} (hk : wfK k) :
    Calls Try.prog 41 #[.pointer (some ⟨bo, 0, none⟩), .int .i64 k] W fun r w' => r = .returned (.bool (ans 4 k A)) ∧ Os w w' bo bm g (stp 4 k A) := h.call fun L hL h1 => o_pin h1 hk
theorem Os.unpin {w W : World} {bo bm g : Nat} {A : List It} (h : Os w W bo bm g A) {k : Int} (hk : wfK k) :
    Calls Try.prog 43 #[.pointer (some ⟨bo, 0, none⟩), .int .i64 k] W fun r w' => r = .returned (.bool (ans 5 k A)) ∧ Os w w' bo bm g (stp 5 k A) := h.call fun L hL h1 => o_unpin h1 hk
theorem Os.pins {w W : World} {bo bm g : Nat} {A : List It} (h : Os w W bo bm g A) {k : Int} (hk : wfK k) :
    Calls Try.prog 39 #[.pointer (some ⟨bo, 0, none⟩), .int .i64 k] W fun r w' => r = .returned (.int .i64 ((pinsOf k A).getD 0 : Nat)) ∧ w' = W := by
  obtain ⟨L, h1, rfl, _⟩ := h
  exact o_pins h1 hk
theorem Os.has {w W : World} {bo bm g : Nat} {A : List It} (h : Os w W bo bm g A) {k : Int} (hk : wfK k) :
    Calls Try.prog 40 #[.pointer (some ⟨bo, 0, none⟩), .int .i64 k] W fun r w' => r = .returned (.bool (pinsOf k A).isSome) ∧ w' = W := by
  obtain ⟨L, h1, rfl, _⟩ := h
  exact o_has h1 hk
theorem Os.len {w W : World} {bo bm g : Nat} {A : List It} (h : Os w W bo bm g A) :
    Calls Try.prog 31 #[.pointer (some ⟨bo, 0, none⟩)] W fun r w' => r = .returned (.int .i64 A.length) ∧ w' = W := by
  obtain ⟨L, h1, rfl, _⟩ := h
  rw [List.length_map]; exact len_any h1
theorem Os.oldest {w W : World} {bo bm g : Nat} {A : List It} (h : Os w W bo bm g A) :
    Calls Try.prog 32 #[.pointer (some ⟨bo, 0, none⟩)] W fun r w' => r = .returned (.tuple #[.int .i64 ((oldOf A).getD 0), .bool (oldOf A).isSome]) ∧ Below W.heap.size W w' := by
  obtain ⟨L, h1, rfl, _⟩ := h
  exact o_oldest h1
theorem Os.all {w W : World} {bo bm g : Nat} {A : List It} (h : Os w W bo bm g A) (hl : A.length ≤ 8796093022208) :
    Calls Try.prog 36 #[.pointer (some ⟨bo, 0, none⟩)] W fun r w' => ∃ v, r = .returned v ∧ w'.ownsRow W.heap.size TIn 1 v (keysOf A).length (iv (keysOf A)) ∧ Below W.heap.size W w' := by
  obtain ⟨L, h1, rfl, _⟩ := h
  have := A.law_any h1 (by simp at hl; omega)
  rw [picked_all] at this
  exact this
theorem Os.free {w W : World} {bo bm g : Nat} {A : List It} (h : Os w W bo bm g A) (hl : A.length ≤ 8796093022208) :
    Calls Try.prog 42 #[.pointer (some ⟨bo, 0, none⟩)] W fun r w' => ∃ v, r = .returned v ∧ w'.ownsRow W.heap.size TIn 1 v (freeOf A).length (iv (freeOf A)) ∧ Below W.heap.size W w' := by
  obtain ⟨L, h1, rfl, _⟩ := h
  have := F.law_any h1 (by simp at hl; omega)
  rw [picked_free] at this
  exact this
theorem stp_pins {kind k : Int} {A : List It} {m : Nat} (h : ∀ x ∈ A, x.2 ≤ m) : ∀ x ∈ stp kind k A, x.2 ≤ m + 1 := by
  have h' : ∀ x ∈ A, x.2 ≤ m + 1 := fun x hx => Nat.le_succ_of_le (h x hx)
  rcases split_or k A with hn | ⟨A1, p, A2, rfl, hn⟩
  · unfold stp
    rw [pinsOf_no hn, rm_no hn]
    intro x hx
    split at hx
    · rcases List.mem_append.1 hx with hx | hx
      · exact h' x hx
      · simp at hx; subst hx; exact Nat.zero_le _
    · split at hx
      · exact h' x hx
      · split at hx
        · exact h' x hx
        · split at hx
          · exact h' x hx
          · split at hx <;> exact h' x hx
  · have hp : p ≤ m := h (k, p) (by simp)
    have key : ∀ q, q ≤ m + 1 → ∀ x ∈ A1 ++ (k, q) :: A2, x.2 ≤ m + 1 := fun q hq x hx => by
      rcases List.mem_append.1 hx with hx | hx
      · exact h' x (by simp [hx])
      · rcases List.mem_cons.1 hx with rfl | hx
        · exact hq
        · exact h' x (by simp [hx])
    unfold stp
    rw [pinsOf_at hn, rm_at hn]
    intro x hx
    split at hx
    · exact h' x hx
    · split at hx
      · simp only [List.mem_append, List.mem_cons, List.not_mem_nil, or_false] at hx
        rcases hx with (hx | hx) | hx
        · exact h' x (by simp [hx])
        · exact h' x (by simp [hx])
        · subst hx; show p ≤ m + 1; omega
      · split at hx
        · exact h' x (by rcases List.mem_append.1 hx with h | h <;> simp [h])
        · split at hx
          · simp only at hx; split at hx
            · rw [setP_at hn] at hx; exact key _ (by omega) x hx
            · exact h' x hx
          · split at hx
            · simp only at hx; split at hx
              · exact h' x hx
              · rw [setP_at hn] at hx; exact key _ (by omega) x hx
            · exact h' x hx
/-- both orders, few pins -/
def Sb (w W : World) (bo bm g bd : Nat) (n : Nat) : Prop := ∃ L v, St W bo bm g L bd v ∧ L.length ≤ n ∧ (∀ x ∈ L.map I.kp, x.2 ≤ n) ∧ Below w.heap.size w W ∧ ∀ i ∈ fp bo bm g L ++ fpd bd v, w.heap.size ≤ i
theorem Sb.below {w W : World} {bo bm g bd n : Nat} (h : Sb w W bo bm g bd n) : Below w.heap.size w W := by obtain ⟨_, _, _, _, _, h, _⟩ := h; exact h
theorem Sb.play {w W : World} {bo bm g bd n : Nat} (h : Sb w W bo bm g bd n) (kind k : Int) (hk : wfK k) (hn : n < 8796093022208) :
    Calls Try.prog 10 #[.pointer (some ⟨bo, 0, none⟩), .pointer (some ⟨bd, 0, none⟩), .agg #[.int .i64 kind, .int .i64 k]] W fun r W' => r = .returned (.bool true) ∧ Sb w W' bo bm g bd (n + 1) := by
  obtain ⟨L, v, h1, h2, h2', h3, h4⟩ := h
  refine (play_any h1 kind k hk (by omega)).mono ?_
  rintro r W' ⟨rfl, L', v', ha, hA⟩
  obtain ⟨b1, b2⟩ := ha.below h3 h4
  have := stp_len hA
  exact ⟨rfl, L', v', ha.st, by omega, by rw [hA]; exact stp_pins h2', b1, b2⟩
set_option maxHeartbeats 4000000 in
theorem built_any (ao : Option Addr) (c m : Nat) (l : List Ac) (w : World) (HM : Hid (m = l.length)) (hl : m ≤ 8796093022208) (HA : Hid (ARow w ao l)) (HW : Hid (∀ x ∈ l, wfK x.2)) :
    Calls Try.prog 38 #[.slice ao m c] w fun r w' => ∃ bo bm g A, r = .returned (.pointer (some ⟨bo, 0, none⟩)) ∧ Os w w' bo bm g A ∧ A.length ≤ m ∧ ∀ x ∈ A, x.2 ≤ m := by
  go_enter Try.func38, Try.ntmps38
  go_wp2_with (go_at_call 9; refine (new_any _).mono ?_; rintro e w0 ⟨bo, bm, g, rfl, h0, hb0, hf0⟩; have hsg := Sg.start h0 hb0 hf0; have H0 : Hid (Sb w (w0.alloc (.cells #[.bool true, .slice none 0 0] TDo)) bo bm g w0.heap.size 0) := (by obtain ⟨L, v, a1, a2, a3, a4⟩ := hsg; have hL : L = [] := List.length_eq_zero_iff.1 (Nat.le_zero.1 a2); subst hL; exact ⟨[], v, a1, a2, by simp, a3, a4⟩); clear h0 hb0 hf0 hsg)
  go_loopw [5] (fun i wr => ∃ (k : Nat), k ≤ m ∧ i = .int .i64 k ∧ Hid (Sb w wr bo bm g w0.heap.size k)) (fun i _ => m - (intOf i).toNat)
  case atStart => exact ⟨0, Nat.zero_le _, rfl, H0⟩
  case round =>
    obtain ⟨k, hk, rfl, HK⟩ := hrel
    by_cases hlt : k < m
    · obtain ⟨x, hx⟩ : ∃ x, l[k]? = some x := ⟨_, List.getElem?_eq_getElem (by have := HM.out; omega)⟩
      obtain ⟨b, off, rfl, c0, c1⟩ := HA.out.c _ _ hx
      have hcr0 := cell_later HK.out.below c0
      have hcr1 := cell_later HK.out.below c1
      have hwf : Hid (wfK x.2) := HW.out x (List.mem_of_getElem? hx)
      have d1 : (k : Int) < (m : Int) := by omega
      have hpl := HK.out.play x.1 x.2 hwf.out (by omega)
      clear c0 c1 hx
      go_wp2_with (go_at_call 10; refine hpl.mono ?_; rintro e w1 ⟨rfl, h1⟩; have H3 : Hid (Sb w w1 bo bm g w0.heap.size (k + 1)) := h1; clear h1)
      go_roundw
      case rel => exact ⟨k + 1, by omega, by go_num, H3⟩
      case measure => simp [intOf]; omega
    · have e : k = m := by omega
      subst e
      go_wp2
      go_ret
      obtain ⟨L, v, a1, a2, a2', a3, a4⟩ := HK.out
      exact ⟨bo, bm, g, L.map I.kp, rfl, ⟨L, a1.o, rfl, a3, fun i hi => a4 i (List.mem_append_left _ hi)⟩, by simpa using a2, a2'⟩
/-- numbers that are appended -/
def ArgI (w : World) (vx : Value) (l : List Int) : Prop := (vx = .slice none 0 0 ∧ l = []) ∨ ∃ ad c, vx = .slice (some ad) l.length c ∧ ∀ j u, (iv l)[j]? = some u → w.cell? (ad.add j) = some u
theorem ArgI.later {w w' : World} {vx : Value} {l : List Int} (h : ArgI w vx l) (hb : Below w.heap.size w w') : ArgI w' vx l := by
  rcases h with h | ⟨ad, c, h1, h2⟩
  · exact .inl h
  · exact .inr ⟨ad, c, h1, fun j u hu => cell_later hb (h2 j u hu)⟩
theorem argI_of {W : World} {B : Nat} {v : Value} {ks : List Int} (h : W.ownsRow B TIn 1 v ks.length (iv ks)) : ArgI W v ks := by
  rcases row_ints h with ⟨h1, h2⟩ | ⟨gv, off, cap, h1, h2⟩
  · exact .inl ⟨h2, h1⟩
  · exact .inr ⟨_, cap, h1, h2⟩
theorem argI_one (W : World) (k : Int) : ArgI (W.alloc (.cells #[.int .i64 k] TIn)) (.slice (some ⟨W.heap.size, 0, none⟩) 1 1) [k] := .inr ⟨_, 1, rfl, World.news_of_block (heap_alloc_new W _)⟩
theorem run_append_ints {w : World} {base n : Nat} {v vx : Value} {xs : List Value} {l : List Int} (ty : TypeId) (hown : w.ownsRow base TIn 1 v n xs) (hsl : ArgI w vx l) (hlen : n + l.length ≤ 17592186044416) (hbase : base ≤ w.heap.size) :
    ∃ v' w', (Builtin.append_ #[43, 43] ty #[v, vx]).run Try.prog w = .ok v' w' ∧ w'.ownsRow base TIn 1 v' (n + l.length) (xs ++ iv l) ∧ w.grownBy w' v.ownBlock := by
  obtain ⟨i0, hi, hz0, hz1, hz2⟩ := info_parts infoInt
  rcases hsl with ⟨rfl, rfl⟩ | ⟨ad, c, rfl, hR⟩
  · exact ⟨v, w, run_append_owned_none w base TIns ty TIn i0 1 Try.underlying43 hi v n xs hown, by simpa using hown, ⟨rfl, rfl, rfl, Nat.le_refl _, fun _ _ _ => rfl⟩⟩
  · obtain ⟨v', w', h1, h2, h3, _⟩ := run_append_own w base TIns ty TIn i0 _ 1 8 Try.underlying43 hi hz0 hz1 hz2 rfl (by decide) v n xs hown ad l.length c (iv l) (by simp) hR (ints_oneCell .i64 l) (by unfold maxLen; omega) (by omega) hbase
    exact ⟨v', w', h1, h2, h3⟩
theorem wpList_append_ints {w : World} {ops : Array Oper} {rest : List Oper} {o : Oper} {a : Go.Act} {Q : Exit → Go.Act → World → Prop} (hwt : Region.wanted o (yielded ops a.tmps) = true) (s x : Operand)
    (ho : o.op = .call { callee := .builtin .append, args := #[s, x], argTypes := #[43, 43] }) (base : Nat) (v : Value) (n : Nat) (xs : List Value) (hs : a.eval s = v) (hown : w.ownsRow base TIn 1 v n xs)
    (vx : Value) (l : List Int) (hx : a.eval x = vx) (hsl : ArgI w vx l) (hlen : n + l.length ≤ 17592186044416) (hbase : base ≤ w.heap.size)
    (h : ∀ v' w', w'.ownsRow base TIn 1 v' (n + l.length) (xs ++ iv l) → w.grownBy w' v.ownBlock → wpList Try.prog ops Q rest (a.put o.dst v') w') : wpList Try.prog ops Q (o :: rest) a w := by
  refine BigFrame.wpList_want hwt fun K hK => ?_
  obtain ⟨v', w', hr, h2, h3⟩ := run_append_ints o.type hown hsl hlen hbase
  unfold Oper.wp execOp
  simp only [ho, resolve, invoke, builtin, Sem.run_bind, Sem.run_pure, Result.andThen_ok, List.map_toArray, List.map_cons, List.map_nil, hs, hx, hr]
  exact hK _ _ (h v' w' h2 h3)
end Go.Proofs.Ytpchllepboolhaa.D
