import Derived.Test.YtijafckdbhklmabYPu
import Derived.Test.YtijafckdbhklmabFC2
import Derived.BigFrame
import Derived.BigGuard
namespace Go.Proofs.Ytijafckdbhklmab.I
open Go.RowKit Go.Sort Go.Lib Go.Shelf Classical
attribute [local go_sem] Oper.semAt_some
set_option linter.unusedVariables false
set_option linter.unusedSimpArgs false
set_option maxRecDepth 100000

theorem laid_row (size first : Int) {W : World} {B : Nat} {v : Value} {L : List Put} (ho : W.ownsRow B TPut 3 v L.length (qcells L)) (hl : L.length ≤ 9223372036854775807) (h0 : 0 ≤ size) (h1 : size ≤ 1099511627776) :
    Calls Try.prog 9 #[.int .i64 size, .int .i64 first, v] W fun e w' => ∃ bm vm, e = .returned (.pointer (some ⟨bm, 0, none⟩)) ∧ MO w' W.heap.size bm vm size (runsL size first L) ∧ Below W.heap.size W w' := by
  obtain ⟨ao, cap, rfl, hp⟩ := puts_row ho
  exact laid_any size first ao _ cap L W rfl hl hp h0 h1
theorem none_own {n q : Nat} (e : (Value.slice none 0 0).ownBlock = some q) : n ≤ q := by cases e
theorem MO.low {w : World} {B B' bm : Nat} {v : Value} {size : Int} {rs : List (Rn Int)} (h : MO w B bm v size rs) (hb : B' ≤ B) : MO w B' bm v size rs :=
  ⟨h.blk, owns_mono h.row hb, Nat.le_trans hb h.base, h.tiles, h.alt, h.le⟩
theorem puts_form {w : World} {v : Value} {l : List Put} (h : PutsA w v l) : ∃ ao cap, v = .slice ao l.length cap ∧ Puts w ao l := by
  rcases h with ⟨rfl, rfl⟩ | ⟨ad, c, rfl, h⟩
  · exact ⟨none, 0, rfl, fun k q hk => by simp at hk⟩
  · exact ⟨some ad, c, rfl, h⟩
theorem laid_puts (size first : Int) {W : World} {v : Value} {L : List Put} (hp : PutsA W v L) (hl : L.length ≤ 9223372036854775807) (h0 : 0 ≤ size) (h1 : size ≤ 1099511627776) :
    Calls Try.prog 9 #[.int .i64 size, .int .i64 first, v] W fun e w' => ∃ bm vm, e = .returned (.pointer (some ⟨bm, 0, none⟩)) ∧ MO w' W.heap.size bm vm size (runsL size first L) ∧ Below W.heap.size W w' := by
  obtain ⟨ao, cap, rfl, hq⟩ := puts_form hp
  exact laid_any size first ao _ cap L W rfl hl hq h0 h1
theorem wpList_append_puts {w : World} {ops : Array Oper} {rest : List Oper} {o : Oper} {a : Act} {Q : Exit → Act → World → Prop} (hgd : o.guard = none) (s x : Operand)
    (ho : o.op = .call { callee := .builtin .append, args := #[s, x], argTypes := #[22, 22] }) (base : Nat) (v : Value) (n : Nat) (xs : List Value) (hs : a.eval s = v) (hown : w.ownsRow base TPut 3 v n xs)
    (vx : Value) (l : List Put) (hx : a.eval x = vx) (hsl : PutsA w vx l) (hlen : n + l.length ≤ 5864062014805) (hbase : base ≤ w.heap.size)
    (h : ∀ v' w', w'.ownsRow base TPut 3 v' (n + l.length) (xs ++ qcells l) → w.grownBy w' v.ownBlock → wpList Try.prog ops Q rest (a.put o.dst v') w') : wpList Try.prog ops Q (o :: rest) a w := by
  obtain ⟨i0, hi, hz0, hz1, hz2⟩ := info_parts infoPut
  rcases hsl with ⟨rfl, rfl⟩ | ⟨ad, c, rfl, hR⟩
  · refine wpList_append_own_none hgd s x TPuts ho base TPut i0 3 Try.underlying22 hi v n xs hs hown hx (h v w ?_ ⟨rfl, rfl, rfl, Nat.le_refl _, fun _ _ _ => rfl⟩)
    simpa [qcells] using hown
  · exact wpList_append_own _ hgd s x TPuts ho base TPut i0 _ 3 24 Try.underlying22 hi hz0 hz1 hz2 rfl (by decide) v n xs hs hown ad l.length c (qcells l) hx (qcells_length l) (puts_cells hR) (qcells_one l) (by unfold maxLen; omega) (by omega) hbase (fun v' w' h1 h2 _ => h v' w' h1 h2)
theorem same_self {w : World} {Ba ba Bb bb : Nat} {va vb : Value} {size : Int} {ra rb : List (Rn Int)} (ha : MO w Ba ba va size ra) (hb : MO w Bb bb vb size rb) (he : ra = rb) :
    Calls Try.prog 13 #[.pointer (some ⟨ba, 0, none⟩), .pointer (some ⟨bb, 0, none⟩)] w fun e w' => e = .returned (.bool true) ∧ Below w.heap.size w w' :=
  (same_any ha hb).mono fun e w' ⟨h1, h2⟩ => ⟨by rw [h1, decide_eq_true he], h2⟩
theorem runsL_take (size first : Int) (l a : List Put) {k : Nat} {q : Put} (h : a[k]? = some q) : runsL size first (l ++ a.take (k + 1)) = setR size (runsL size first (l ++ a.take k)) q.1 q.2.1 q.2.2 := by
  rw [List.take_add_one, h, show (some q).toList = [q] from rfl, ← List.append_assoc, runsL_snoc]
theorem take_over {a : List Put} {k : Nat} (h : a.length ≤ k) : a.take (k + 1) = a.take k := by
  rw [List.take_of_length_le (by omega), List.take_of_length_le h]
end Go.Proofs.Ytijafckdbhklmab.I
