import Derived.Test.YtpchllepboolhaazPGP
import Derived.BigQuiet
import Derived.Maps.OwnIn
import Derived.Test.YtpchllepboolhaaQ23
namespace Go.Proofs.Ytpchllepboolhaa.P
open Go.RowKit Go.Proofs.Ytpchllepboolhaa.D
attribute [local go_sem] Oper.semAt_some
attribute [local go_sem ↓] Go.wp_at_zero Go.wp_at_succ
set_option linter.unusedVariables false
set_option linter.unusedSimpArgs false
set_option maxRecDepth 100000

/-- keys in memory -/
structure KRow (w : World) (b off : Nat) (ks : List PK) : Prop where
  c : ∀ k x, ks[k]? = some x → w.cell? ⟨b, off + k * 2, none⟩ = some (.int .i64 x.1.1) ∧ w.cell? ⟨b, off + k * 2 + 1, none⟩ = some (.string x.1.2)
theorem KRow.later {w w' : World} {b off : Nat} {ks : List PK} (h : KRow w b off ks) (hb : Below w.heap.size w w') : KRow w' b off ks :=
  ⟨fun k x hx => ⟨cell_later hb (h.c k x hx).1, cell_later hb (h.c k x hx).2⟩⟩
theorem KRow.drewN {w : World} {b off : Nat} {ks : List PK} (h : KRow w b off ks) (q : Nat) : KRow (w.drewN q) b off ks := ⟨fun k x hx => h.c k x hx⟩
theorem getD_some {ks : List PK} {k : Nat} (h : k < ks.length) : ks[k]? = some (ks.getD k pk0) := by simp [List.getD, h]

theorem bdrew {B : Nat} {a w : World} (h : Below B a w) (n : Nat) : Below B a (w.drewN n) := h.trans ⟨rfl, rfl, rfl, Nat.le_refl _, fun _ _ => rfl⟩
theorem bytes_ne {p q : ByteArray} (h : p ≠ q) : (p.toList == q.toList) = false := by
  cases hb : (p.toList == q.toList)
  · rfl
  · have h1 := eq_of_beq hb
    rw [ByteArray.toList_eq, ByteArray.toList_eq, Array.toList_inj] at h1
    exact absurd (ByteArray.ext h1) h
theorem pk_ne {p q : PK} (h : p ≠ q) : p.1.1 ≠ q.1.1 ∨ p.1.1 = q.1.1 ∧ p.1.2 ≠ q.1.2 := by
  by_cases h1 : p.1.1 = q.1.1
  · refine .inr ⟨h1, fun h2 => h ?_⟩
    obtain ⟨⟨a, b⟩, hp⟩ := p
    obtain ⟨⟨a', b'⟩, hq⟩ := q
    simp at h1 h2
    subst h1; subst h2; rfl
  · exact .inl h1
theorem rem_cases {n : Int} {m : Nat} (hm : 0 < m) : (∃ j : Nat, n.tmod m = j ∧ j < m) ∨ (n.tmod m < 0 ∧ ∃ j : Nat, n.tmod m + m = j ∧ j < m) := by
  have hmi : (0 : Int) < (m : Int) := by omega
  by_cases hneg : n.tmod m < 0
  · have := Int.lt_tmod_of_pos n hmi
    refine .inr ⟨hneg, (n.tmod m + m).toNat, by omega, by omega⟩
  · have := Int.tmod_lt_of_pos n hmi
    exact .inl ⟨(n.tmod m).toNat, by omega, by omega⟩

set_option maxHeartbeats 8000000 in
theorem place_any {w : World} {b off c m : Nat} {ks : List PK} {n : Int} (HR : Hid (KRow w b off ks)) (HM : Hid (m = ks.length)) (hm0 : 0 < m) (hml : m ≤ 17592186044416) :
    Calls Try.prog 14 #[.slice (some ⟨b, off, none⟩) m c, .int .i64 n] w fun r w' => ∃ i : Nat, r = .returned (.int .i64 i) ∧ Fst ks i ∧ Below w.heap.size w w' := by
  have hmi : (0 : Int) < (m : Int) := by omega
  have hmne : ¬ ((m : Int) = 0) := by omega
  rcases rem_cases (n := n) hm0 with ⟨j, hj, hjm⟩ | ⟨hneg, j, hj, hjm⟩
  · have hpos : 0 ≤ n.tmod m := by omega
    go_enter Try.func14, Try.ntmps14
    go_wp2
    clear hj hpos
    go_loopw [5] (fun i wr => ∃ (k : Nat), k ≤ j ∧ i = .int .i64 k ∧ Hid (∀ i, i < k → ks.getD i pk0 ≠ ks.getD j pk0) ∧ Hid (Below w.heap.size w wr)) (fun i _ => j - (intOf i).toNat)
    case atStart => exact ⟨0, Nat.zero_le _, rfl, fun i hi => absurd hi (by omega), Below.refl _ _⟩
    case round =>
      obtain ⟨k, hk, rfl, HN, HB⟩ := hrel
      by_cases hlt : k < j
      · have hkz : (k : Int) < (j : Int) := by omega
        have hkm : (k : Int) < (m : Int) := by omega
        have hjz : (j : Int) < (m : Int) := by omega
        obtain ⟨p, hp⟩ : ∃ p, p = ks.getD k pk0 := ⟨_, rfl⟩
        obtain ⟨q, hq⟩ : ∃ q, q = ks.getD j pk0 := ⟨_, rfl⟩
        have c := (HR.out.later HB.out).c k p (by rw [hp]; exact getD_some (by have := HM.out; omega))
        have d := (HR.out.later HB.out).c j q (by rw [hq]; exact getD_some (by have := HM.out; omega))
        obtain ⟨c0, c1⟩ := c
        obtain ⟨d0, d1⟩ := d
        have HP : Hid (p = ks.getD k pk0) := hp
        have HQ : Hid (q = ks.getD j pk0) := hq
        clear hp hq
        by_cases hpq : p = q
        · subst hpq
          go_wp2
          go_quiet (fail)
          go_wp2
          go_ret
          exact ⟨k, rfl, ⟨by omega, by have := HM.out; simp; omega, fun i hi => by simp at hi ⊢; have := HN.out i hi; rw [← HQ.out, HP.out] at this; simpa using this⟩, bdrew HB.out _⟩
        · have HPQ : Hid (p ≠ q) := hpq
          have HN2 : Hid (∀ i, i < k + 1 → ks.getD i pk0 ≠ ks.getD j pk0) := fun i hi => by
            rcases Nat.lt_or_ge i k with h | h
            · exact HN.out i h
            · have : i = k := by omega
              subst this
              rw [← HP.out, ← HQ.out]; exact HPQ.out
          rcases pk_ne hpq with h1 | ⟨h1, h2⟩
          · have h1' : (p.1.1 == q.1.1) = false := by simpa using h1
            clear hpq h1
            go_wp2
            go_quiet (fail)
            go_wp2
            go_roundw
            case rel => exact ⟨k + 1, by omega, by go_num, HN2, bdrew HB.out _⟩
            case measure => simp [intOf]; omega
          · have h2' : (p.1.2.toList == q.1.2.toList) = false := by
              exact bytes_ne h2
            rw [← h1] at d0
            clear hpq h2 h1
            go_wp2
            go_quiet (fail)
            go_wp2
            go_roundw
            case rel => exact ⟨k + 1, by omega, by go_num, HN2, bdrew HB.out _⟩
            case measure => simp [intOf]; omega
      · have e : k = j := by omega
        subst e
        go_wp2
        go_ret
        exact ⟨k, rfl, ⟨by omega, by have := HM.out; simp; omega, fun i hi => by simp at hi ⊢; have := HN.out i hi; simpa using this⟩, HB.out⟩
  · go_enter Try.func14, Try.ntmps14
    go_wp2
    clear hj hneg
    go_loopw [5] (fun i wr => ∃ (k : Nat), k ≤ j ∧ i = .int .i64 k ∧ Hid (∀ i, i < k → ks.getD i pk0 ≠ ks.getD j pk0) ∧ Hid (Below w.heap.size w wr)) (fun i _ => j - (intOf i).toNat)
    case atStart => exact ⟨0, Nat.zero_le _, rfl, fun i hi => absurd hi (by omega), Below.refl _ _⟩
    case round =>
      obtain ⟨k, hk, rfl, HN, HB⟩ := hrel
      by_cases hlt : k < j
      · have hkz : (k : Int) < (j : Int) := by omega
        have hkm : (k : Int) < (m : Int) := by omega
        have hjz : (j : Int) < (m : Int) := by omega
        obtain ⟨p, hp⟩ : ∃ p, p = ks.getD k pk0 := ⟨_, rfl⟩
        obtain ⟨q, hq⟩ : ∃ q, q = ks.getD j pk0 := ⟨_, rfl⟩
        have c := (HR.out.later HB.out).c k p (by rw [hp]; exact getD_some (by have := HM.out; omega))
        have d := (HR.out.later HB.out).c j q (by rw [hq]; exact getD_some (by have := HM.out; omega))
        obtain ⟨c0, c1⟩ := c
        obtain ⟨d0, d1⟩ := d
        have HP : Hid (p = ks.getD k pk0) := hp
        have HQ : Hid (q = ks.getD j pk0) := hq
        clear hp hq
        by_cases hpq : p = q
        · subst hpq
          go_wp2
          go_quiet (fail)
          go_wp2
          go_ret
          exact ⟨k, rfl, ⟨by omega, by have := HM.out; simp; omega, fun i hi => by simp at hi ⊢; have := HN.out i hi; rw [← HQ.out, HP.out] at this; simpa using this⟩, bdrew HB.out _⟩
        · have HPQ : Hid (p ≠ q) := hpq
          have HN2 : Hid (∀ i, i < k + 1 → ks.getD i pk0 ≠ ks.getD j pk0) := fun i hi => by
            rcases Nat.lt_or_ge i k with h | h
            · exact HN.out i h
            · have : i = k := by omega
              subst this
              rw [← HP.out, ← HQ.out]; exact HPQ.out
          rcases pk_ne hpq with h1 | ⟨h1, h2⟩
          · have h1' : (p.1.1 == q.1.1) = false := by simpa using h1
            clear hpq h1
            go_wp2
            go_quiet (fail)
            go_wp2
            go_roundw
            case rel => exact ⟨k + 1, by omega, by go_num, HN2, bdrew HB.out _⟩
            case measure => simp [intOf]; omega
          · have h2' : (p.1.2.toList == q.1.2.toList) = false := by
              exact bytes_ne h2
            rw [← h1] at d0
            clear hpq h2 h1
            go_wp2
            go_quiet (fail)
            go_wp2
            go_roundw
            case rel => exact ⟨k + 1, by omega, by go_num, HN2, bdrew HB.out _⟩
            case measure => simp [intOf]; omega
      · have e : k = j := by omega
        subst e
        go_wp2
        go_ret
        exact ⟨k, rfl, ⟨by omega, by have := HM.out; simp; omega, fun i hi => by simp at hi ⊢; have := HN.out i hi; simpa using this⟩, HB.out⟩
end Go.Proofs.Ytpchllepboolhaa.P

namespace Go.Proofs.Ytpchllepboolhaa.P
open Go.RowKit Go.Maps
set_option linter.unusedSimpArgs false
set_option maxRecDepth 100000
theorem sizePl (w : World) : (sizeOf TPl).run Try.prog w = .ok 5 w := by kernel_rfl
theorem undPt : Try.prog.underlying TPt = some (.pointer TPl) := Try.underlying76
theorem shape_of {w : World} {a : Nat} {cs : Array Value} {T : TypeId} (h : w.heap[a]? = some (.cells cs T (0, 0))) : w.shape? a = some (T, cs.size) := by
  unfold World.shape?; rw [h]
theorem noView_cells (w : World) {a : Nat} {cs : Array Value} {T : TypeId} (h : w.heap[a]? = some (.cells cs T (0, 0))) : (noView ⟨a, 0, none⟩).run Try.prog w = .ok () w := by
  simp [noView, viewAt, shape_of h, go_sem]
theorem mayBeOne_cells (w : World) {a b : Nat} {cs cs' : Array Value} {T T' : TypeId} (h : w.heap[a]? = some (.cells cs T (0, 0))) (h' : w.heap[b]? = some (.cells cs' T' (0, 0))) : (mayBeOne ⟨a, 0, none⟩ ⟨b, 0, none⟩).run Try.prog w = .ok false w := by
  have f1 : ∀ n, w.frozen? ⟨a, n, none⟩ = false := fun n => frozen_of h
  have f2 : ∀ n, w.frozen? ⟨b, n, none⟩ = false := fun n => frozen_of h'
  simp [mayBeOne, stringish, shape_of h, shape_of h', f1, f2, go_sem]
theorem sameAddr_cells (w : World) {a b : Nat} {cs cs' : Array Value} {T T' : TypeId} (h : w.heap[a]? = some (.cells cs T (0, 0))) (h' : w.heap[b]? = some (.cells cs' T' (0, 0))) (hab : a ≠ b) : (sameAddr ⟨a, 0, none⟩ ⟨b, 0, none⟩).run Try.prog w = .ok false w := by
  have f1 : ∀ n, w.frozen? ⟨a, n, none⟩ = false := fun n => frozen_of h
  simp [sameAddr, hab, f1, noView_cells w h, noView_cells w h', mayBeOne_cells w h h', go_sem]
theorem eqIn_ptr (w : World) (d : Nat) {a b : Nat} {cs cs' : Array Value} {T T' : TypeId} (h : w.heap[a]? = some (.cells cs T (0, 0))) (h' : w.heap[b]? = some (.cells cs' T' (0, 0))) (hab : a ≠ b) : (Op.equalIn (d + 1) TPt (.pointer (some ⟨a, 0, none⟩)) (.pointer (some ⟨b, 0, none⟩))).run Try.prog w = .ok false w := by
  simp [Op.equalIn, run_underlying undPt, sizePl, sameAddr_cells w h h' hab]
theorem eqIn_ptr_same (w : World) (d : Nat) (a : Nat) : (Op.equalIn (d + 1) TPt (.pointer (some ⟨a, 0, none⟩)) (.pointer (some ⟨a, 0, none⟩))).run Try.prog w = .ok true w := by
  simp [Op.equalIn, run_underlying undPt, sizePl, sameAddr]
theorem eq_ptr (w : World) {a b : Nat} {cs cs' : Array Value} {T T' : TypeId} (h : w.heap[a]? = some (.cells cs T (0, 0))) (h' : w.heap[b]? = some (.cells cs' T' (0, 0))) (hab : a ≠ b) : (Op.equal TPt (.pointer (some ⟨a, 0, none⟩)) (.pointer (some ⟨b, 0, none⟩))).run Try.prog w = .ok false w := eqIn_ptr w 9999 h h' hab
theorem eq_ptr_same (w : World) (a : Nat) : (Op.equal TPt (.pointer (some ⟨a, 0, none⟩)) (.pointer (some ⟨a, 0, none⟩))).run Try.prog w = .ok true w := eqIn_ptr_same w 9999 a
theorem neq_ptr (w : World) {a b : Nat} {cs cs' : Array Value} {T T' : TypeId} (h : w.heap[a]? = some (.cells cs T (0, 0))) (h' : w.heap[b]? = some (.cells cs' T' (0, 0))) (hab : a ≠ b) : (binOp .neq TPt (.pointer (some ⟨a, 0, none⟩)) (.pointer (some ⟨b, 0, none⟩))).run Try.prog w = .ok (.bool true) w := by
  simp only [binOp]
  simp [eq_ptr w h h' hab]
theorem neq_ptr_same (w : World) (a : Nat) : (binOp .neq TPt (.pointer (some ⟨a, 0, none⟩)) (.pointer (some ⟨a, 0, none⟩))).run Try.prog w = .ok (.bool false) w := by
  simp only [binOp]
  simp [eq_ptr_same w a]
end Go.Proofs.Ytpchllepboolhaa.P

namespace Go.Proofs.Ytpchllepboolhaa.P
open Go.RowKit Go.Maps
attribute [local go_sem] Oper.semAt_some
set_option linter.unusedVariables false
set_option linter.unusedSimpArgs false
set_option maxRecDepth 100000

/-- the block of the k-th place; behind the last the gap -/
def nthP (L : List Ent) (g k : Nat) : Nat := (L.map (·.blk) ++ [g]).getD k g
theorem nthP_lt {L : List Ent} {g k : Nat} {e : Ent} (h : L[k]? = some e) : nthP L g k = e.blk := by
  unfold nthP
  have hk := (List.getElem?_eq_some_iff.1 h).1
  rw [List.getD_eq_getElem?_getD, List.getElem?_append_left (by simpa using hk), List.getElem?_map, h]; rfl
theorem nthP_end (L : List Ent) (g : Nat) : nthP L g L.length = g := by
  unfold nthP
  rw [List.getD_eq_getElem?_getD, List.getElem?_append_right (by simp)]; simp
theorem RO.first {w : World} {bo bm g : Nat} {L : List Ent} (h : RO w bo bm g L) : w.cell? ⟨g, 4, none⟩ = some (.pointer (some ⟨nthP L g 0, 0, none⟩)) := by
  obtain ⟨nx, pv, rl, hg, hL⟩ := h.rg
  rw [cell_of hg]
  have := rl.first
  show some (Value.pointer (some ⟨nx g, 0, none⟩)) = _
  rw [this]
  unfold nthP
  cases L <;> rfl
theorem RO.next {w : World} {bo bm g : Nat} {L : List Ent} (h : RO w bo bm g L) {k : Nat} {e : Ent} (he : L[k]? = some e) : w.cell? ⟨e.blk, 4, none⟩ = some (.pointer (some ⟨nthP L g (k + 1), 0, none⟩)) := by
  obtain ⟨nx, pv, rl, hg, hL⟩ := h.rg
  have hk := (List.getElem?_eq_some_iff.1 he).1
  rw [cell_of (hL e (List.mem_of_getElem? he))]
  show some (Value.pointer (some ⟨nx e.blk, 0, none⟩)) = _
  have hc : (L.map (·.blk) ++ [g])[k + 1]? = some (nthP L g (k + 1)) := by
    unfold nthP
    rw [List.getD_eq_getElem?_getD, List.getElem?_eq_getElem (by simp; omega)]; rfl
  rw [rl.next (i := k) (b := e.blk) (by rw [List.getElem?_map, he]; rfl) hc]
theorem RO.notGap {w : World} {bo bm g : Nat} {L : List Ent} (h : RO w bo bm g L) {e : Ent} (he : e ∈ L) : e.blk ≠ g := by
  obtain ⟨nx, pv, rl, hg, hL⟩ := h.rg
  intro e'
  exact (List.nodup_cons.1 rl.nd).1 (by rw [← e']; exact List.mem_map.2 ⟨e, he, rfl⟩)
/-- how many places are left -/
def leftP (L : List Ent) : Value → Nat
  | .pointer (some a) => L.length - (L.map (·.blk)).idxOf a.block
  | _ => 0
theorem leftP_lt {L : List Ent} {g k : Nat} (hn : (g :: L.map (·.blk)).Nodup) (hk : k ≤ L.length) : leftP L (.pointer (some ⟨nthP L g k, 0, none⟩)) = L.length - k := by
  unfold leftP
  simp only
  have : (L.map (·.blk)).idxOf (nthP L g k) = k := by
    by_cases h : k < L.length
    · rw [nthP_lt (List.getElem?_eq_getElem h)]
      have h2 : k < (L.map (·.blk)).length := by simpa using h
      have := List.Nodup.idxOf_getElem (List.nodup_cons.1 hn).2 k h2
      simpa using this
    · have e : k = L.length := by omega
      subst e
      rw [nthP_end, List.idxOf_eq_length (List.nodup_cons.1 hn).1]; simp
  rw [this]
theorem RO.nd {w : World} {bo bm g : Nat} {L : List Ent} (h : RO w bo bm g L) : (g :: L.map (·.blk)).Nodup := by
  obtain ⟨nx, pv, rl, hg, hL⟩ := h.rg
  exact rl.nd

theorem RO.gapBlk {w : World} {bo bm g : Nat} {L : List Ent} (h : RO w bo bm g L) : ∃ o x, w.heap[g]? = some (plc pk0 0 o x) := by
  obtain ⟨nx, pv, rl, hg, hL⟩ := h.rg
  exact ⟨_, _, hg⟩
theorem RO.plcBlk {w : World} {bo bm g : Nat} {L : List Ent} (h : RO w bo bm g L) {e : Ent} (he : e ∈ L) : ∃ o x, w.heap[e.blk]? = some (plc e.key e.pins o x) := by
  obtain ⟨nx, pv, rl, hg, hL⟩ := h.rg
  exact ⟨_, _, hL e he⟩
end Go.Proofs.Ytpchllepboolhaa.P
