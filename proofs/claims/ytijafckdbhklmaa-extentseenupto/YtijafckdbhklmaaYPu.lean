import Derived.Test.YtijafckdbhklmaaYW
import Derived.Laws.AppendOwnNone
import Derived.Deep.RegionHeld3
import Derived.Deep.RegionWith
import Derived.Deep.DrawnRows
namespace Go.Proofs.Ytijafckdbhklmaa.I
open Go.RowKit Go.Sort Go.Lib Go.Shelf
attribute [local go_sem] Oper.semAt_some
set_option linter.unusedVariables false
set_option linter.unusedSimpArgs false
set_option maxRecDepth 100000

abbrev TPut : TypeId := 66
abbrev TPuts : TypeId := 51
def qcell (q : Put) : List Value := [.int .i64 q.1, .int .i64 q.2.1, .int .i64 q.2.2]
def qcells (l : List Put) : List Value := l.flatMap qcell
theorem qcells_length (l : List Put) : (qcells l).length = l.length * 3 := by
  induction l with
  | nil => rfl
  | cons a t ih => simp [qcells, qcell] at ih ⊢; omega
theorem qcells_append (a b : List Put) : qcells (a ++ b) = qcells a ++ qcells b := by simp [qcells]
theorem qcells_one (l : List Put) : ∀ u ∈ qcells l, u.oneCell' = true := by
  intro u hu
  obtain ⟨r, _, hr⟩ := List.mem_flatMap.1 hu
  simp only [qcell, List.mem_cons, List.not_mem_nil, or_false] at hr
  rcases hr with rfl | rfl | rfl <;> rfl
theorem qcells_get (l : List Put) (k : Nat) (q : Put) (h : l[k]? = some q) (j : Nat) (hj : j < 3) : (qcells l)[k * 3 + j]? = (qcell q)[j]? := by
  induction l generalizing k with
  | nil => simp at h
  | cons a t ih =>
    have e : qcells (a :: t) = qcell a ++ qcells t := by simp [qcells]
    cases k with
    | zero =>
      simp at h; subst h
      rw [e, List.getElem?_append_left (by simp [qcell]; omega), Nat.zero_mul, Nat.zero_add]
    | succ k =>
      simp at h
      rw [e, List.getElem?_append_right (by simp [qcell]; omega)]
      simp only [qcell, List.length_cons, List.length_nil]
      rw [show (k + 1) * 3 + j - (0 + 1 + 1 + 1) = k * 3 + j by omega]
      exact ih k h
theorem infoPut : (Try.prog.info? TPut).map (fun i => (i.zero, i.size, i.bytes)) = some (some (.agg #[.int .i64 0, .int .i64 0, .int .i64 0]), 3, 24) := by kernel_rfl
/-- a list of Sets in a value -/
def PutsA (w : World) (v : Value) (l : List Put) : Prop := (v = .slice none 0 0 ∧ l = []) ∨ ∃ ad c, v = .slice (some ad) l.length c ∧ Puts w (some ad) l
theorem PutsA.later {w w' : World} {v : Value} {l : List Put} (h : PutsA w v l) (hb : Below w.heap.size w w') : PutsA w' v l := by
  rcases h with h | ⟨ad, c, e, h⟩
  · exact .inl h
  · exact .inr ⟨ad, c, e, h.later hb⟩
theorem puts_cells {w : World} {ad : Addr} {l : List Put} (h : Puts w (some ad) l) : ∀ j u, (qcells l)[j]? = some u → w.cell? (ad.add j) = some u := by
  intro j u hu
  have hj : j < l.length * 3 := by
    have := (List.getElem?_eq_some_iff.1 hu).1
    rwa [qcells_length] at this
  obtain ⟨q, hq⟩ : ∃ q, l[j / 3]? = some q := ⟨_, List.getElem?_eq_getElem (by omega)⟩
  obtain ⟨b, off, e, c0, c1, c2⟩ := h _ q hq
  simp only [Option.some.injEq] at e
  subst e
  rw [WideShapes.add_plain]
  have ej : j = j / 3 * 3 + j % 3 := by omega
  have h3 : j % 3 < 3 := Nat.mod_lt _ (by omega)
  have g := qcells_get l (j / 3) q hq (j % 3) h3
  rw [← ej, hu] at g
  have e2 : off + j = off + j / 3 * 3 + j % 3 := by omega
  rw [e2]
  have h4 : j % 3 = 0 ∨ j % 3 = 1 ∨ j % 3 = 2 := by omega
  rcases h4 with e | e | e <;> rw [e] at g ⊢ <;> simp only [qcell, List.getElem?_cons_zero, List.getElem?_cons_succ, Option.some.injEq] at g <;> subst g <;> assumption
theorem puts_row {w : World} {B : Nat} {v : Value} {L : List Put} (h : w.ownsRow B TPut 3 v L.length (qcells L)) : ∃ ao cap, v = .slice ao L.length cap ∧ Puts w ao L := by
  rcases h.2 with ⟨hv, hn⟩ | ⟨g, cap, cur, hv, _⟩
  · exact ⟨none, 0, by rw [hn]; exact hv, fun k p hk => by have := (List.getElem?_eq_some_iff.1 hk).1; omega⟩
  · refine ⟨some ⟨g, 0, none⟩, cap, hv, fun k q hk => ⟨g, 0, rfl, ?_⟩⟩
    have c0 := h.cells (g := g) (by rw [hv]; rfl) _ _ ((qcells_get L k q hk 0 (by omega)).trans rfl)
    have c1 := h.cells (g := g) (by rw [hv]; rfl) _ _ ((qcells_get L k q hk 1 (by omega)).trans rfl)
    have c2 := h.cells (g := g) (by rw [hv]; rfl) _ _ ((qcells_get L k q hk 2 (by omega)).trans rfl)
    rw [WideShapes.add_plain] at c0 c1 c2
    exact ⟨c0, by rw [Nat.add_assoc]; exact c1, by rw [Nat.add_assoc]; exact c2⟩
theorem run_append_puts {w : World} {base n : Nat} {v vx : Value} {xs : List Value} {l : List Put} (ty : TypeId) (hown : w.ownsRow base TPut 3 v n xs) (hsl : PutsA w vx l) (hlen : n + l.length ≤ 5864062014805) (hbase : base ≤ w.heap.size) :
    ∃ v' w', (Builtin.append_ #[51, 51] ty #[v, vx]).run Try.prog w = .ok v' w' ∧ w'.ownsRow base TPut 3 v' (n + l.length) (xs ++ qcells l) ∧ w.grownBy w' v.ownBlock := by
  obtain ⟨i0, hi, hz0, hz1, hz2⟩ := info_parts infoPut
  rcases hsl with ⟨rfl, rfl⟩ | ⟨ad, c, rfl, hR⟩
  · exact ⟨v, w, run_append_owned_none w base TPuts ty TPut i0 3 Try.underlying51 hi v n xs hown, by simpa [qcells] using hown, ⟨rfl, rfl, rfl, Nat.le_refl _, fun _ _ _ => rfl⟩⟩
  · obtain ⟨v', w', h1, h2, h3, _⟩ := run_append_own w base TPuts ty TPut i0 _ 3 24 Try.underlying51 hi hz0 hz1 hz2 rfl (by decide) v n xs hown ad l.length c (qcells l) (qcells_length l) (puts_cells hR) (qcells_one l) (by unfold maxLen; omega) (by omega) hbase
    exact ⟨v', w', h1, h2, h3⟩
theorem step_append_puts {w : World} {ops : Array Oper} {o : Oper} {a : Act} {K : Act → World → Prop} {Q : Exit → Act → World → Prop} {E : Prop} (hgd : o.guard = none) (s x : Operand)
    (ho : o.op = .call { callee := .builtin .append, args := #[s, x], argTypes := #[51, 51] }) (base : Nat) (v : Value) (n : Nat) (xs : List Value) (hs : a.eval s = v) (hown : w.ownsRow base TPut 3 v n xs)
    (vx : Value) (l : List Put) (hx : a.eval x = vx) (hsl : PutsA w vx l) (hlen : n + l.length ≤ 5864062014805) (hbase : base ≤ w.heap.size)
    (h : ∀ v' w', w'.ownsRow base TPut 3 v' (n + l.length) (xs ++ qcells l) → w.grownBy w' v.ownBlock → K (a.put o.dst v') w') :
    if Region.wanted o (yielded ops a.tmps) = true then Oper.wp Try.prog o a w K Q else E := by
  have hw : Region.wanted o (yielded ops a.tmps) = true := by simp [Region.wanted, hgd]
  rw [if_pos hw]
  obtain ⟨v', w', hr, h2, h3⟩ := run_append_puts o.type hown hsl hlen hbase
  unfold Oper.wp execOp
  simp only [ho, resolve, invoke, builtin, Sem.run_bind, Sem.run_pure, Result.andThen_ok, List.map_toArray, List.map_cons, List.map_nil, hs, hx, hr]
  exact h v' w' h2 h3
end Go.Proofs.Ytijafckdbhklmaa.I
