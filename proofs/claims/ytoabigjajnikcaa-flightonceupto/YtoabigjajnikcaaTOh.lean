import Derived.Test.YtoabigjajnikcaaTOf
namespace Go.Proofs.Ytoabigjajnikcaa.O
open Go.RowKit Go.Maps Go.Proofs.Ytoabigjajnikcaa
set_option linter.unusedVariables false
set_option linter.unusedSimpArgs false
set_option maxRecDepth 100000
theorem infoQ : (Try.prog.info? TRq).map (fun i => (i.zero, i.size, i.bytes)) = some (some (.agg #[.int .u16 0, .int .u16 0, .int .u64 0, .int .u64 0, .int .u64 0, .slice none 0 0]), 6, 56) := by kernel_rfl
theorem infoB : (Try.prog.info? TBo).map (fun i => (i.zero, i.size, i.bytes)) = some (some (.bool false), 1, 1) := by kernel_rfl
theorem infoY : (Try.prog.info? TBy).map (fun i => (i.zero, i.size, i.bytes)) = some (some (.slice none 0 0), 1, 24) := by kernel_rfl
theorem wrap_la (la : Nat) (h : la ≤ 1099511627776) : IntKind.i64.wrap ((la : Int) + 1) = (la : Int) + 1 := by rw [IntKind.wrap_i64]; omega
section
variable {w0 W W' : World} {xb : Nat} {ox : Obj} {F F' : Nat → Prop} {b bm : Nat} {V V' : Int → Value} {S S' : St} {vi vq vr va vi' vq' vr' va' : Value} {D D' : Nat → Prop} {Is Is' : List Int} {Qs Qs' : List Qx} {Rs Rs' : List Bool} {As As' : List Ax}
theorem frow_new {w9 w8 : World} {q : Rq} {a9 da : Option Addr} {n1 c9 dc : Nat} {D : Nat → Prop} (ho : w9.ownsRow w8.heap.size 5 1 (.slice a9 n1 c9) n1 (q.data.map bv)) (hn : q.data.length = n1) (hr : BRow W da dc q.data) : FRow w9 (fun g => D g ∨ (Value.slice a9 n1 c9).ownBlock = some g) a9 c9 q.data := by
  subst hn
  obtain ⟨a, c, e, h⟩ := FRow.own (F := fun g => D g ∨ (Value.slice a9 q.data.length c9).ownBlock = some g) ho hr.lt hr.len (fun g hg => .inr hg)
  simp only [Value.slice.injEq] at e
  obtain ⟨rfl, _, rfl⟩ := e
  exact h
theorem frow_newA {w9 w8 : World} {l : List Nat} {a9 da : Option Addr} {n1 c9 dc : Nat} {D : Nat → Prop} (ho : w9.ownsRow w8.heap.size 5 1 (.slice a9 n1 c9) n1 (l.map bv)) (hn : l.length = n1) (hr : BRow W da dc l) : FRow w9 (fun g => D g ∨ (Value.slice a9 n1 c9).ownBlock = some g) a9 c9 l := by
  subst hn
  obtain ⟨a, c, e, h⟩ := FRow.own (F := fun g => D g ∨ (Value.slice a9 l.length c9).ownBlock = some g) ho hr.lt hr.len (fun g hg => .inr hg)
  simp only [Value.slice.injEq] at e
  obtain ⟨rfl, _, rfl⟩ := e
  exact h
theorem qc_new {q : Rq} {n1 : Nat} (hn : q.data.length = n1) {a9 : Option Addr} {c9 : Nat} : qc (q, a9, c9) = [.int .u16 q.fl, .int .u16 q.ty, .int .u64 q.ck, .int .u64 q.off, .int .u64 q.len, .slice a9 n1 c9] := by subst hn; rfl
theorem row_n {T s k n : Nat} {v : Value} {xs : List Value} (h : W.ownsRow 0 T s v k xs) (hn : k = n) : W.ownsRow 0 T s v n xs := by subst hn; exact h
theorem full_eq (hok : SOk S) {j m : Nat} (hj : S.L.length = j) (hm : S.most = m) (h : ¬ j < m) : S.L.length = S.most := by have := hok.len; omega
theorem no_id (hs : Same S Is Qs Rs As) {j : Nat} (hl : Is.length = j) {id : Int} (h : ∀ t, t < j → Is[t]?.getD 0 ≠ id) : id ∉ ids S.L := fun hm => by
  rw [← hs.i] at hm
  obtain ⟨t, ht, he⟩ := List.mem_iff_getElem.1 hm
  exact h t (by omega) (by rw [List.getElem?_eq_getElem ht]; exact he)
theorem at_id (hs : Same S Is Qs Rs As) {j : Nat} (hl : S.L.length = j) {id : Int} {t : Nat} (ht : t < j) (h : Is[t]?.getD 0 = id) : ∃ e, S.L[t]? = some e ∧ e.id = id := by
  have he : S.L[t]? = some S.L[t] := List.getElem?_eq_getElem (by omega)
  refine ⟨_, he, ?_⟩
  rw [hs.i, ids_at he] at h
  exact h
theorem r_cell {gr n c : Nat} (h : On W F b bm V S' vi vq (.slice (some ⟨gr, 0, none⟩) n c) va D Is Qs Rs As) (hs : Same S Is Qs Rs As) (hn : S.L.length = n) (k : Nat) (e : En) (he : S.L[k]? = some e) : W.cell? ⟨gr, k, none⟩ = some (.bool e.rd) := by
  obtain ⟨l1, l2, l3, l4⟩ := hs.lens hn
  have hk := (List.getElem?_eq_some_iff.1 he).1
  have hr := h.r
  rw [l3] at hr
  rw [hr.cellAt k (by omega), List.getElem?_map, hs.r, List.getElem?_map, he]; rfl
theorem a_cell {gr n c : Nat} (h : On W F b bm V S vi vq vr (.slice (some ⟨gr, 0, none⟩) n c) D Is Qs Rs As) (hn : As.length = n) (k : Nat) (hk : k < n) : ∃ v, W.cell? ⟨gr, k, none⟩ = some v := by
  have hr := h.a
  rw [hn] at hr
  have := hr.cellAt k (by omega)
  rw [List.getElem?_map, List.getElem?_eq_getElem (by omega)] at this
  exact ⟨_, this⟩
theorem r_free {T g n c k : Nat} {xs : List Value} (h : W.ownsRow 0 T 1 (.slice (some ⟨g, 0, none⟩) n c) k xs) (j : Nat) : W.frozen? ⟨g, j, none⟩ = false := by
  obtain ⟨_, _, cs, hc⟩ := row_lt h g rfl
  exact blk_free hc j
theorem ne_box (h : On W F b bm V S vi vq vr va D Is Qs Rs As) : (b ≠ W.heap.size ∧ bm ≠ W.heap.size) ∧ vi.ownBlock ≠ some W.heap.size ∧ vq.ownBlock ≠ some W.heap.size ∧ vr.ownBlock ≠ some W.heap.size ∧ va.ownBlock ≠ some W.heap.size :=
  ⟨⟨fun e => by have := h.t.ltb; omega, fun e => by have := h.t.ltm; omega⟩, fun e => by have := (row_lt h.i _ e).1; omega, fun e => by have := (row_lt h.q _ e).1; omega, fun e => by have := (row_lt h.r _ e).1; omega, fun e => by have := (row_lt h.a _ e).1; omega⟩
end
end Go.Proofs.Ytoabigjajnikcaa.O
