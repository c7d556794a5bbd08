import Derived.Test.YtjikibhhhchgeaaDoorY47
import Derived.Test.YtjikibhhhchgeaaDoorY36
import Derived.Test.YtjikibhhhchgeaaDoorY46
import Derived.Test.YtjikibhhhchgeaaDoorY31
import Derived.Test.YtjikibhhhchgeaaDoorY50
import Derived.Deep.RegionHeld3
import Derived.Deep.MidRow
import Derived.Deep.CutRange
namespace Go.Proofs.YtjikibhhhchgeaaDoor
open Go.RowKit
set_option linter.unusedVariables false
set_option linter.unusedSimpArgs false
set_option maxRecDepth 100000
theorem rangeC {W : World} {b : Nat} {cs : Array Value} {t : TypeId} (h : W.heap[b]? = some (.cells cs t (0, 0))) : W.rangeAt b 0 cs.toList := fun j v hj => by
  rw [Nat.zero_add, blk_at h]
  simpa using hj
theorem wpList_load48 {w : World} {ops : Array Oper} {rest : List Oper} {o : Oper} {a : Act} {Q : Exit → Act → World → Prop} (hgd : o.guard = none) (x : Operand) (ho : o.op = .load 48 x) (b off : Nat) (hx : a.eval x = .pointer (some ⟨b, off, none⟩)) (cs : Array Value) (hc : w.rangeAt b off cs.toList) (hs : cs.size = 27)
    (h : wpList Tryd.prog ops Q rest (a.put o.dst (.agg cs)) w) : wpList Tryd.prog ops Q (o :: rest) a w :=
  wpList_plain hgd fun K hK => wp_load_mid (P := Tryd.prog) 48 x ho b off hx cs.toList _ hc Tryd.underlying48 rfl (by rw [Array.length_toList, hs]; kernel_rfl) (by rw [Array.toArray_toList]; exact hK _ _ h)
theorem flat_atC : ∀ (l : List Rp) (i : Nat) (r : Rp), l[i]? = some r → (l.flatMap Rp.cells)[i * 2]? = some (.slice r.ao r.n r.cap) ∧ (l.flatMap Rp.cells)[i * 2 + 1]? = some (.int .i64 (r.E : Int))
  | [], i, r, h => by simp at h
  | y :: l, 0, r, h => by simp at h; subst h; exact ⟨rfl, rfl⟩
  | y :: l, i + 1, r, h => by
    have := flat_atC l i r (by simpa using h)
    rw [show (i + 1) * 2 = i * 2 + 1 + 1 by omega]
    exact this
/-- what was packed, place by place: the cells of the list, and the bytes -/
structure Itm (W : World) (g i : Nat) (p : List Nat × Nat) (a : Option Addr) (n c : Nat) : Prop where
  c0 : W.cell? ⟨g, i * 2, none⟩ = some (.slice a n c)
  c1 : W.cell? ⟨g, i * 2 + 1, none⟩ = some (.int .i64 (p.2 : Int))
  row : BRow W a c p.1
  len : p.1.length = n
theorem Itm.later {W W' : World} {g i : Nat} {p : List Nat × Nat} {a : Option Addr} {n c : Nat} (h : Itm W g i p a n c) (k : Below W.heap.size W W') : Itm W' g i p a n c := ⟨cell_later k h.c0, cell_later k h.c1, h.row.later k, h.len⟩
theorem Pks.items {w W : World} {v : Value} {l : List Rp} {res : List (List Nat × Nat)} (h : Pks w W v l) (e : l.map (fun r => (r.L, r.E)) = res) (n : Nat) (hn : res.length = n) (h0 : 0 < n) (hsm : ∀ r ∈ res, r.1.length ≤ 140737488351232) : ∃ g c, v = .slice (some ⟨g, 0, none⟩) n c ∧ ∀ i p, res[i]? = some p → ∃ a m c, Itm W g i p a m c := by
  have hl : l.length = n := by rw [← hn, ← e, List.length_map]
  rcases h.own.2 with ⟨_, h1⟩ | ⟨g, cap, cur, hv, _⟩
  · omega
  · refine ⟨g, cap, by rw [hv, hl], fun i p hp => ?_⟩
    rw [← e, List.getElem?_map] at hp
    obtain ⟨r, hr, rfl⟩ := Option.map_eq_some_iff.1 hp
    have hi := (List.getElem?_eq_some_iff.1 hr).1
    have ho := h.own
    rw [hv] at ho
    have e2 := flat_atC l i r hr
    obtain ⟨h1, h2, h3⟩ := h.rows r (List.mem_of_getElem? hr)
    have hb : r.L.length ≤ 140737488351232 := hsm (r.L, r.E) (by rw [← e]; exact List.mem_map.2 ⟨r, List.mem_of_getElem? hr, rfl⟩)
    rw [← h2] at h1
    obtain ⟨ao', cap', hv', hbr⟩ := BRow.own h1 h3 hb
    simp only [Value.slice.injEq] at hv'
    obtain ⟨q1, _, q2⟩ := hv'
    rw [← q1, ← q2] at hbr
    exact ⟨r.ao, r.n, r.cap, (ho.cellAt (i * 2) (by omega)).trans e2.1, (ho.cellAt (i * 2 + 1) (by omega)).trans e2.2, hbr, h2⟩
set_option maxHeartbeats 1000000 in
theorem same9 (ao bo : Option Addr) (cap cap' n : Nat) (l : List Nat) (w : World) (h : BRow w ao cap l) (h' : BRow w bo cap' l) (hn : l.length = n) :
    Calls Tryd.prog 9 #[.slice ao n cap, .slice bo n cap'] w fun e w' => e = .returned (.bool true) ∧ Below w.heap.size w w' := by
  have HS : Hid _ := same08_any ao bo cap cap' n n l l w h h' hn hn
  clear h h' hn
  go_enter Tryd.func9, Tryd.ntmps9
  go_wp2_with fail
  refine Calls.mono HS.out ?_
  rintro e W1 ⟨rfl, hb⟩
  go_wp2
  go_ret
  exact ⟨by simp, hb⟩
theorem cell_heap {W V : World} {b j : Nat} (h : V.heap[b]? = W.heap[b]?) : V.cell? ⟨b, j, none⟩ = W.cell? ⟨b, j, none⟩ := by simp only [World.cell?, h]
theorem Runs.kept {W V : World} {g : Nat} {a0 v1 : Value} {t : TypeId} {ra : Option Addr} {rs : List (Nat × Nat)} (h : Runs W ra rs) (hx : W.heap[g]? = some (.cells #[a0, v1] t (0, 0))) (h0 : ∀ z, a0 ≠ .int .u64 z) (h1 : ∀ z, v1 ≠ .int .u64 z) (k : KeptIn (fun b => b = g) W V) : Runs V ra rs := by
  refine ⟨h.lt, fun hne => ?_⟩
  obtain ⟨b, off, e, hc⟩ := h.at_ hne
  have hbg : b ≠ g := by
    rintro rfl
    have h9 := (hc 0 (List.length_pos_iff.2 hne)).1
    rw [blk_at hx] at h9
    have h8 := Array.mem_of_getElem? h9
    simp at h8
    rcases h8 with h8 | h8
    · exact h0 _ h8.symm
    · exact h1 _ h8.symm
  have hlt : b < W.heap.size := World.block_lt_of_cell? _ _ (hc 0 (List.length_pos_iff.2 hne)).1
  have hh := k.block b hlt hbg
  exact ⟨b, off, e, fun j hj => ⟨(cell_heap hh).trans (hc j hj).1, (cell_heap hh).trans (hc j hj).2⟩⟩
theorem ask_len {s : ByteArray} {ks : List Nat} (h : (rAskC s ks).2 = 0) : ks.length ≤ 64 := by
  unfold rAskC at h
  split at h
  · split at h
    · assumption
    · simp at h
  · simp at h
theorem eraw (n : Nat) (h : n ≠ 0) : ((n : Int) == 0) = false := by rw [beq_eq_false_iff_ne]; omega
theorem es_at {W : World} {ge i er : Nat} {es : List Nat} {t : TypeId} (h : W.heap[ge]? = some (.cells (es.map (fun e : Nat => Value.int .i64 (e : Int))).toArray t (0, 0))) (e : es[i]? = some er) : W.cell? ⟨ge, i, none⟩ = some (.int .i64 (er : Int)) := by
  rw [blk_at h]
  simp [e]
theorem un_hole (ao : Option Addr) (cap n : Nat) (l : List Nat) (w : World) (h : BRow w ao cap l) (hn : l.length = n) :
    Calls Tryd.prog 24 #[.slice ao n cap] w fun e w' => ∃ (o k er : Nat), e = .returned (.tuple #[.agg #[.int .u64 (o : Int), .int .u32 (k : Int)], .int .i64 (er : Int)]) ∧ Below w.heap.size w w' ∧ o < 18446744073709551616 ∧ k < 4294967296 ∧ (er = 0 ↔ l.length = 12) ∧ (er = 0 → hoL o k = l) := by
  have hl := h.lt
  by_cases h9 : l.length = 12
  · refine (unpackHole_ok ao cap n l w h hn h9).mono ?_
    rintro e w' ⟨rfl, hb⟩
    refine ⟨_, _, 0, rfl, hb, rvV_lt2 _ _ _ _ hl (by decide) (by decide), rvV_lt2 _ _ _ _ hl (by decide) (by decide), ⟨fun _ => h9, fun _ => rfl⟩, fun _ => ?_⟩
    have f7 : okR l 0 8 = true := by simp [okR]; omega
    have ha := ra_ok f7
    have f5 : okR l (raA l 0 8) 4 = true := by rw [ha]; simp [okR]; omega
    have i1 := inv_rd hl f7
    have i2 := inv_rd hl f5
    rw [dr0, ← ha, i2, drN (by rw [ha]; omega)] at i1
    unfold hoL
    rw [List.nil_append]
    first | exact i1.symm | (rw [List.append_nil] at i1; exact i1.symm)
  · refine (unpackHole_no ao cap n l w h hn h9).mono ?_
    rintro e w' ⟨rfl, hb⟩
    exact ⟨0, 0, 81, rfl, hb, by decide, by decide, ⟨fun h => absurd h (by decide), fun h => absurd h h9⟩, fun h => absurd h (by decide)⟩
end Go.Proofs.YtjikibhhhchgeaaDoor
