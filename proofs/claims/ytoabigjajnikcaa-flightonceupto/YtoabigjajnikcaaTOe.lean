import Derived.Test.YtoabigjajnikcaaTOb
import Derived.Test.YtoabigjajnikcaaTZf
namespace Go.Proofs.Ytoabigjajnikcaa.O
open Go.RowKit Go.Maps Go.Proofs.Ytoabigjajnikcaa
set_option linter.unusedVariables false
set_option linter.unusedSimpArgs false
set_option maxRecDepth 100000
section
variable {W W' : World} {F F' : Nat → Prop} {b bm : Nat} {V V' : Int → Value} {S S' : St} {vi vq vr va : Value} {D D' : Nat → Prop} {Is Is' : List Int} {Qs Qs' : List Qx} {Rs Rs' : List Bool} {As As' : List Ax}
theorem map_at {α β : Type} {f : α → β} {l : List α} {l' : List β} (h : l.map f = l') {k : Nat} {y : β} (hy : l'[k]? = some y) : ∃ x, l[k]? = some x ∧ f x = y := by
  rw [← h, List.getElem?_map] at hy
  cases hx : l[k]? with
  | none => rw [hx] at hy; simp at hy
  | some x => rw [hx] at hy; exact ⟨x, rfl, by simpa using hy⟩
theorem own_some {B T s n : Nat} {ao : Option Addr} {c : Nat} {xs : List Value} (ho : W.ownsRow B T s (.slice ao n c) n xs) (hn : 0 < n) : ∃ g, ao = some ⟨g, 0, none⟩ := by
  rcases ho.2 with ⟨_, h0⟩ | ⟨g, c, cur, hv, _⟩
  · omega
  · simp only [Value.slice.injEq] at hv; exact ⟨g, hv.1⟩
theorem On.at {n : Nat} {ai aq ar ax : Option Addr} {ci cq cr cx : Nat} (h : On W F b bm V S (.slice ai n ci) (.slice aq n cq) (.slice ar n cr) (.slice ax n cx) D Is Qs Rs As) (hs : Same S Is Qs Rs As) (hn : S.L.length = n) (k : Nat) (e : En) (he : S.L[k]? = some e) :
    ∃ gi gq gr ga da dc aa ac, ai = some ⟨gi, 0, none⟩ ∧ aq = some ⟨gq, 0, none⟩ ∧ ar = some ⟨gr, 0, none⟩ ∧ ax = some ⟨ga, 0, none⟩ ∧ W.cell? ⟨gi, k, none⟩ = some (.int .i64 e.id) ∧ W.rangeAt gq (k * 6) (rcl e.rq da dc) ∧ W.cell? ⟨gr, k, none⟩ = some (.bool e.rd) ∧ W.cell? ⟨ga, k, none⟩ = some (.slice aa e.an.length ac) ∧ FRow W D da dc e.rq.data ∧ FRow W D aa ac e.an ∧ gi < W.heap.size ∧ gq < W.heap.size ∧ gr < W.heap.size ∧ ga < W.heap.size := by
  obtain ⟨l1, l2, l3, l4⟩ := hs.lens hn
  have hk := (List.getElem?_eq_some_iff.1 he).1
  have hi := h.i
  have hq := h.q
  have hr := h.r
  have ha := h.a
  rw [l1] at hi; rw [l2] at hq; rw [l3] at hr; rw [l4] at ha
  obtain ⟨gi, rfl⟩ := own_some hi (by omega)
  obtain ⟨gq, rfl⟩ := own_some hq (by omega)
  obtain ⟨gr, rfl⟩ := own_some hr (by omega)
  obtain ⟨ga, rfl⟩ := own_some ha (by omega)
  obtain ⟨x, hx, hxe⟩ := map_at hs.q (k := k) (y := e.rq) (by simp [he])
  obtain ⟨y, hy, hye⟩ := map_at hs.a (k := k) (y := e.an) (by simp [he])
  refine ⟨gi, gq, gr, ga, x.2.1, x.2.2, y.2.1, y.2.2, rfl, rfl, rfl, rfl, ?_, ?_, ?_, ?_, ?_, ?_, (row_lt hi gi rfl).1, (row_lt hq gq rfl).1, (row_lt hr gr rfl).1, (row_lt ha ga rfl).1⟩
  · rw [hi.cellAt k (by omega), List.getElem?_map, hs.i, ids_at he]; rfl
  · have := own_range qc Qs hq (fun x _ => qc_len x) l2 k x hx
    rw [qc, hxe] at this; exact this
  · rw [hr.cellAt k (by omega), List.getElem?_map, hs.r, List.getElem?_map, he]; rfl
  · rw [ha.cellAt k (by omega), List.getElem?_map, hy]
    simp [ab, hye]
  · have := h.pd x (List.mem_of_getElem? hx)
    rw [hxe] at this; exact this
  · have := h.pa y (List.mem_of_getElem? hy)
    rw [hye] at this; exact this
theorem ov_rows {B : Nat} {e : En} {da aa : Option Addr} {dc ac : Nat} (h : OV W B e da dc aa ac) : BRow W da dc e.rq.data ∧ BRow W aa ac e.an := by
  obtain ⟨da', dc', aa', ac', hE, r1, r2⟩ := (h.pv (F := fun _ => True) (fun _ _ _ => trivial)).ex
  simp [ecl] at hE
  obtain ⟨⟨rfl, rfl⟩, rfl, rfl⟩ := hE
  exact ⟨r1.row, r2.row⟩
end
end Go.Proofs.Ytoabigjajnikcaa.O
