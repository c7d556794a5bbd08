import Derived.Test.YtijafckdbhklmabYY
import Derived.Laws.AppendOwnNone
import Derived.BigFrame
import Derived.BigGuard
namespace Go.Proofs.Ytijafckdbhklmab.B
open Go.RowKit Go.Sort Go.Lib Go.Shelf
attribute [local go_sem] Oper.semAt_some
set_option linter.unusedVariables false
set_option linter.unusedSimpArgs false
set_option maxRecDepth 100000

theorem rngs_cells {w : World} {ad : Addr} {l : List (Int × Int)} (h : Rngs w (some ad) l) : ∀ j u, (pcells l)[j]? = some u → w.cell? (ad.add j) = some u := by
  intro j u hu
  have hj : j < l.length * 2 := by
    have := (List.getElem?_eq_some_iff.1 hu).1
    rwa [pcells_length] at this
  obtain ⟨p, hp⟩ : ∃ p, l[j / 2]? = some p := ⟨_, List.getElem?_eq_getElem (by omega)⟩
  obtain ⟨h1, h2⟩ := pcells_get l _ p hp
  obtain ⟨b', off', e, c1, c2⟩ := h _ p hp
  simp only [Option.some.injEq] at e
  subst e
  rw [WideShapes.add_plain]
  rcases Nat.mod_two_eq_zero_or_one j with hm | hm
  · have ej : j = j / 2 * 2 := by omega
    rw [ej] at hu ⊢
    rw [h1] at hu
    cases hu
    exact c1
  · have ej : j = j / 2 * 2 + 1 := by omega
    rw [ej] at hu ⊢
    rw [h2] at hu
    cases hu
    exact c2
/-- a list of ranges that was handed in -/
def ArgS (w : World) (v : Value) (l : List (Int × Int)) : Prop := (v = .slice none 0 0 ∧ l = []) ∨ ∃ ad c, v = .slice (some ad) l.length c ∧ Rngs w (some ad) l
theorem ArgS.later {w w' : World} {v : Value} {l : List (Int × Int)} (h : ArgS w v l) (hb : Below w.heap.size w w') : ArgS w' v l := by
  rcases h with h | ⟨ad, c, e, h⟩
  · exact .inl h
  · exact .inr ⟨ad, c, e, h.later hb⟩
theorem ArgS.sl {w : World} {v : Value} {l : List (Int × Int)} (h : ArgS w v l) (hl : l.length ≤ 8796093022207) : SL w v l := by
  rcases h with ⟨rfl, rfl⟩ | ⟨ad, c, rfl, h⟩
  · exact ⟨none, 0, rfl, hl, fun k p hk => by simp at hk⟩
  · exact ⟨_, c, rfl, hl, h⟩
theorem wpList_append_sl {w : World} {ops : Array Oper} {rest : List Oper} {o : Oper} {a : Act} {Q : Exit → Act → World → Prop} (hgd : o.guard = none) (s x : Operand)
    (ho : o.op = .call { callee := .builtin .append, args := #[s, x], argTypes := #[TRngs, TRngs] }) (base : Nat) (v : Value) (n : Nat) (xs : List Value) (hs : a.eval s = v) (hown : w.ownsRow base TRng 2 v n xs)
    (vx : Value) (l : List (Int × Int)) (hx : a.eval x = vx) (hsl : ArgS w vx l) (hlen : n + l.length ≤ 8796093022207) (hbase : base ≤ w.heap.size)
    (h : ∀ v' w', w'.ownsRow base TRng 2 v' (n + l.length) (xs ++ pcells l) → w.grownBy w' v.ownBlock → wpList Try.prog ops Q rest (a.put o.dst v') w') : wpList Try.prog ops Q (o :: rest) a w := by
  obtain ⟨i0, hi, hz0, hz1, hz2⟩ := info_parts infoRng
  rcases hsl with ⟨rfl, rfl⟩ | ⟨ad, c, rfl, hR⟩
  · refine wpList_append_own_none hgd s x TRngs ho base TRng i0 2 Try.underlying48 hi v n xs hs hown hx (h v w ?_ ⟨rfl, rfl, rfl, Nat.le_refl _, fun _ _ _ => rfl⟩)
    simpa [pcells] using hown
  · exact wpList_append_own _ hgd s x TRngs ho base TRng i0 _ 2 16 Try.underlying48 hi hz0 hz1 hz2 rfl (by decide) v n xs hs hown ad l.length c (pcells l) hx (pcells_length l) (rngs_cells hR) (pcells_one l) (by unfold maxLen; omega) (by omega) hbase (fun v' w' h1 h2 _ => h v' w' h1 h2)
theorem run_append_sl {w : World} {base n : Nat} {v vx : Value} {xs : List Value} {l : List (Int × Int)} (ty : TypeId) (hown : w.ownsRow base TRng 2 v n xs) (hsl : ArgS w vx l) (hlen : n + l.length ≤ 8796093022207) (hbase : base ≤ w.heap.size) :
    ∃ v' w', (Builtin.append_ #[48, 48] ty #[v, vx]).run Try.prog w = .ok v' w' ∧ w'.ownsRow base TRng 2 v' (n + l.length) (xs ++ pcells l) ∧ w.grownBy w' v.ownBlock := by
  obtain ⟨i0, hi, hz0, hz1, hz2⟩ := info_parts infoRng
  rcases hsl with ⟨rfl, rfl⟩ | ⟨ad, c, rfl, hR⟩
  · exact ⟨v, w, run_append_owned_none w base TRngs ty TRng i0 2 Try.underlying48 hi v n xs hown, by simpa [pcells] using hown, ⟨rfl, rfl, rfl, Nat.le_refl _, fun _ _ _ => rfl⟩⟩
  · obtain ⟨v', w', h1, h2, h3, _⟩ := run_append_own w base TRngs ty TRng i0 _ 2 16 Try.underlying48 hi hz0 hz1 hz2 rfl (by decide) v n xs hown ad l.length c (pcells l) (pcells_length l) (rngs_cells hR) (pcells_one l) (by unfold maxLen; omega) (by omega) hbase
    exact ⟨v', w', h1, h2, h3⟩
theorem wpList_append_sg {w : World} {ops : Array Oper} {rest : List Oper} {o : Oper} {a : Act} {Q : Exit → Act → World → Prop} (hwt : Region.wanted o (yielded ops a.tmps) = true) (s x : Operand)
    (ho : o.op = .call { callee := .builtin .append, args := #[s, x], argTypes := #[48, 48] }) (base : Nat) (v : Value) (n : Nat) (xs : List Value) (hs : a.eval s = v) (hown : w.ownsRow base TRng 2 v n xs)
    (vx : Value) (l : List (Int × Int)) (hx : a.eval x = vx) (hsl : ArgS w vx l) (hlen : n + l.length ≤ 8796093022207) (hbase : base ≤ w.heap.size)
    (h : ∀ v' w', w'.ownsRow base TRng 2 v' (n + l.length) (xs ++ pcells l) → w.grownBy w' v.ownBlock → wpList Try.prog ops Q rest (a.put o.dst v') w') : wpList Try.prog ops Q (o :: rest) a w := by
  refine BigFrame.wpList_want hwt fun K hK => ?_
  obtain ⟨v', w', hr, h2, h3⟩ := run_append_sl o.type hown hsl hlen hbase
  unfold Oper.wp execOp
  simp only [ho, resolve, invoke, builtin, Sem.run_bind, Sem.run_pure, Result.andThen_ok, List.map_toArray, List.map_cons, List.map_nil, hs, hx, hr]
  exact hK _ _ (h v' w' h2 h3)
theorem sum_ex {w : World} {v1 : Value} {la : List (Int × Int)} (h1 : SL w v1 la) :
    Calls Try.prog 24 #[v1] w fun e w' => ∃ x : Int, e = .returned (.int .i64 x) ∧ Hid (x = cnt (inB la) 0 1099511627776) ∧ Below w.heap.size w w' := (sum_any h1).mono fun e w' ⟨he, hb⟩ => ⟨_, he, rfl, hb⟩
theorem cnt_norm {L : List (Int × Int)} {S : Int → Prop} (h : Norm L S) (f : Int → Bool) (hf : ∀ i, f i = true ↔ S i) : cnt (inB L) 0 1099511627776 = cnt f 0 1099511627776 := cnt_congr (fun i h0 h1 => by
  have h2 : inB L i = true ↔ f i = true := by
    rw [inB_iff, norm_in h, hf]
    exact ⟨fun g => g.2.2, fun g => ⟨by omega, by omega, g⟩⟩
  cases hx : inB L i <;> cases hy : f i <;> simp_all)
theorem norm_op {L L1 L2 : List (Int × Int)} {S1 S2 : Int → Prop} {f : Prop → Prop → Prop} (h1 : Norm L1 S1) (h2 : Norm L2 S2) (h : Norm L (fun i => f (inL L1 i) (inL L2 i))) : Norm L (fun i => f (S1 i) (S2 i)) := norm_iff h (fun i h0 h1' => by
  have e1 : inL L1 i = S1 i := propext ((norm_in h1).trans ⟨fun g => g.2.2, fun g => ⟨h0, h1', g⟩⟩)
  have e2 : inL L2 i = S2 i := propext ((norm_in h2).trans ⟨fun g => g.2.2, fun g => ⟨h0, h1', g⟩⟩)
  rw [e1, e2])
theorem norm_l {L L1 : List (Int × Int)} {S1 S2 : Int → Prop} {f : Prop → Prop → Prop} (h1 : Norm L1 S1) (h : Norm L (fun i => f (inL L1 i) (S2 i))) : Norm L (fun i => f (S1 i) (S2 i)) := norm_iff h (fun i h0 h1' => by
  have e1 : inL L1 i = S1 i := propext ((norm_in h1).trans ⟨fun g => g.2.2, fun g => ⟨h0, h1', g⟩⟩)
  rw [e1])
theorem norm_r {L L2 : List (Int × Int)} {S1 S2 : Int → Prop} {f : Prop → Prop → Prop} (h2 : Norm L2 S2) (h : Norm L (fun i => f (S1 i) (inL L2 i))) : Norm L (fun i => f (S1 i) (S2 i)) := norm_iff h (fun i h0 h1' => by
  have e2 : inL L2 i = S2 i := propext ((norm_in h2).trans ⟨fun g => g.2.2, fun g => ⟨h0, h1', g⟩⟩)
  rw [e2])
theorem norm_1 {L L1 : List (Int × Int)} {S1 : Int → Prop} (h1 : Norm L1 S1) (h : Norm L (inL L1)) : Norm L S1 := norm_iff h (fun i h0 h1' => (norm_in h1).trans ⟨fun g => g.2.2, fun g => ⟨h0, h1', g⟩⟩)
end Go.Proofs.Ytijafckdbhklmab.B
