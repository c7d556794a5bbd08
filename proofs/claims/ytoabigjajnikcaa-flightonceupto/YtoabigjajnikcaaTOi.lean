import Derived.Test.YtoabigjajnikcaaTOh
import Derived.Maps.AppendAt
namespace Go.Proofs.Ytoabigjajnikcaa.O
open Go.RowKit Go.Maps Go.Proofs.Ytoabigjajnikcaa
set_option linter.unusedVariables false
set_option linter.unusedSimpArgs false
set_option maxRecDepth 100000
theorem step_append_own {P : Program} {ops : Array Oper} {o : Oper} {a : Act} {w : World} {K : Act → World → Prop} {Q : Exit → Act → World → Prop} {E : Prop}
    (hg : o.guard = none) (s x : Operand) (t : TypeId) (hop : o.op = Op.call { callee := Callee.builtin Builtin.append, args := #[s, x], argTypes := #[t, t] })
    (base : Nat) (e : TypeId) (i : TypeInfo) (z : Value) (size bytes : Nat) (ht : P.underlying t = some (.slice e)) (hi : P.info? e = some i) (hz : i.zero = some z)
    (hsize : i.size = size) (hby : i.bytes = bytes) (hzs : z.cells.size = size) (hsz : 0 < size) (v : Value) (n : Nat) (xs : List Value) (hs : a.eval s = v) (hown : w.ownsRow base e size v n xs)
    (ad : Addr) (m c : Nat) (news : List Value) (hx : a.eval x = .slice (some ad) m c) (hl : news.length = m * size) (hnews : ∀ j u, news[j]? = some u → w.cell? (ad.add j) = some u) (h1 : ∀ u ∈ news, u.oneCell' = true)
    (h63 : n + m ≤ maxLen) (hbytes : (n + m) * bytes ≤ 140737488355328) (hbase : base ≤ w.heap.size) (N : Nat) (hN : n + m = N) (ys : List Value) (hys : xs ++ news = ys)
    (hK : ∀ ao cap w', w'.ownsRow base e size (.slice ao N cap) N ys → w.grownBy w' v.ownBlock → K (a.put o.dst (.slice ao N cap)) w') :
    if Region.wanted o (yielded ops a.tmps) = true then Oper.wp P o a w K Q else E := by
  subst hN hys
  have hw : Region.wanted o (yielded ops a.tmps) = true := by simp [Region.wanted, hg]
  rw [if_pos hw]
  obtain ⟨v', w', hr, h2, h3, h4, h5⟩ := run_append_own_at (P := P) w base t o.type e i z size bytes ht hi hz hsize hby hzs hsz v n xs hown ad m c news hl hnews h1 h63 hbytes hbase
  obtain ⟨ao, cap, rfl⟩ := owns_form9 h2
  unfold Oper.wp execOp
  simp only [hop, resolve, invoke, builtin, Sem.run_bind, Sem.run_pure, Result.andThen_ok, List.map_toArray, List.map_cons, List.map_nil, hs, hx, hr]
  exact hK ao cap w' h2 h3
theorem step_append_opt {P : Program} {ops : Array Oper} {o : Oper} {a : Act} {w : World} {K : Act → World → Prop} {Q : Exit → Act → World → Prop} {E : Prop}
    (hg : o.guard = none) (s x : Operand) (t : TypeId) (hop : o.op = Op.call { callee := Callee.builtin Builtin.append, args := #[s, x], argTypes := #[t, t] })
    (base : Nat) (e : TypeId) (i : TypeInfo) (z : Value) (size bytes : Nat) (ht : P.underlying t = some (.slice e)) (hi : P.info? e = some i) (hz : i.zero = some z)
    (hsize : i.size = size) (hby : i.bytes = bytes) (hzs : z.cells.size = size) (hsz : 0 < size) (v : Value) (n : Nat) (xs : List Value) (hs : a.eval s = v) (hown : w.ownsRow base e size v n xs)
    (ao : Option Addr) (m c : Nat) (news : List Value) (hx : a.eval x = .slice ao m c) (hl : news.length = m * size) (hao : ∃ ad, ao = some ad ∧ ∀ j u, news[j]? = some u → w.cell? (ad.add j) = some u) (h1 : ∀ u ∈ news, u.oneCell' = true)
    (h63 : n + m ≤ maxLen) (hbytes : (n + m) * bytes ≤ 140737488355328) (hbase : base ≤ w.heap.size) (N : Nat) (hN : n + m = N) (ys : List Value) (hys : xs ++ news = ys)
    (hK : ∀ ao cap w', w'.ownsRow base e size (.slice ao N cap) N ys → w.grownBy w' v.ownBlock → K (a.put o.dst (.slice ao N cap)) w') :
    if Region.wanted o (yielded ops a.tmps) = true then Oper.wp P o a w K Q else E := by
  obtain ⟨ad, rfl, hnews⟩ := hao
  exact step_append_own hg s x t hop base e i z size bytes ht hi hz hsize hby hzs hsz v n xs hs hown ad m c news hx hl hnews h1 h63 hbytes hbase N hN ys hys hK
theorem drew_below (wX : World) : Below wX.heap.size wX wX.drew := ⟨rfl, rfl, rfl, Nat.le_refl _, fun _ _ => rfl⟩
theorem made_below (wX : World) (T : TypeId) : Below wX.heap.size wX (wX.drew.alloc (.cells #[] T)) := (drew_below wX).trans (below1 wX.drew _)
theorem made_belowD (wX : World) (T : TypeId) : Below wX.heap.size wX (wX.alloc (.cells #[] T)).drew := (below1 wX _).trans ⟨rfl, rfl, rfl, Nat.le_refl _, fun _ _ => rfl⟩
theorem made_rowD (wX : World) (T s : Nat) : (wX.alloc (.cells #[] T)).drew.ownsRow wX.heap.size T s (.slice (some ⟨wX.heap.size, 0, none⟩) 0 0) 0 [] := World.ownsRow_made wX #[] 0 (Nat.le_refl _) (by unfold maxLen; omega) (by simp)
theorem below_any {wX WA W1 : World} (h : Below wX.heap.size wX WA) (hg : WA.grownBy W1 (some wX.heap.size)) : Below wX.heap.size wX W1 :=
  h.grown hg h.size (fun k hk => by simp only [Option.some.injEq] at hk; omega)
theorem below_app {wX W1 : World} {cs : Array Value} {T : TypeId} (hg : (wX.drew.alloc (.cells cs T)).grownBy W1 (some wX.heap.size)) : Below wX.heap.size wX W1 := by
  have h0 : Below wX.heap.size wX wX.drew := ⟨rfl, rfl, rfl, Nat.le_refl _, fun _ _ => rfl⟩
  have h1 := h0.trans (below1 wX.drew (.cells cs T))
  exact h1.grown hg h1.size (fun k hk => by simp only [Option.some.injEq] at hk; omega)
theorem below_app2 {wX W1 W2 : World} {v : Value} {T s n : Nat} {xs : List Value} (h : Below wX.heap.size wX W1) (ho : W1.ownsRow wX.heap.size T s v n xs) (hg : W1.grownBy W2 v.ownBlock) : Below wX.heap.size wX W2 :=
  h.grown hg h.size (fun k hk => (row_lt ho k hk).2.1)
structure Cut2 (W : World) (g s n c k : Nat) (A B : List Value) : Prop where
  la : A.length = k * s
  lb : B.length = (n - (k + 1)) * s
  ca : ∀ W', Below W.heap.size W W' → ∀ j u, A[j]? = some u → W'.cell? ((⟨g, 0, none⟩ : Addr).add j) = some u
  cb : ∀ W', Below W.heap.size W W' → ∀ j u, B[j]? = some u → W'.cell? ((⟨g, (k + 1) * s, none⟩ : Addr).add j) = some u
  oa : ∀ u ∈ A, u.oneCell' = true
  ob : ∀ u ∈ B, u.oneCell' = true
  cap : n ≤ c ∧ c ≤ 9223372036854775807
theorem Cut2.opt {W : World} {g s n c k : Nat} {A B : List Value} (h : Cut2 W g s n c k A B) (hk : k < n) (W' : World) (hb : Below W.heap.size W W') : ∃ ad, (if c = k + 1 then some ⟨g, 0, none⟩ else some ⟨g, (k + 1) * s, none⟩ : Option Addr) = some ad ∧ ∀ j u, B[j]? = some u → W'.cell? (ad.add j) = some u := by
  by_cases hc : c = k + 1
  · refine ⟨⟨g, 0, none⟩, by rw [if_pos hc], fun j u hu => ?_⟩
    have h1 := h.lb
    have h2 := h.cap
    have h3 := (List.getElem?_eq_some_iff.1 hu).1
    rw [show n - (k + 1) = 0 by omega, Nat.zero_mul] at h1
    omega
  · exact ⟨⟨g, (k + 1) * s, none⟩, by rw [if_neg hc], h.cb W' hb⟩
theorem Cut2.opt1 {W : World} {g n c k : Nat} {A B : List Value} (h : Cut2 W g 1 n c k A B) (hk : k < n) (W' : World) (hb : Below W.heap.size W W') : ∃ ad, (if c = k + 1 then some ⟨g, 0, none⟩ else some ⟨g, k + 1, none⟩ : Option Addr) = some ad ∧ ∀ j u, B[j]? = some u → W'.cell? (ad.add j) = some u := by
  have := h.opt hk W' hb
  rw [Nat.mul_one] at this
  exact this
theorem cut2_of {W : World} {T s g n c k : Nat} {α : Type} (f : α → List Value) {l : List α} (ho : W.ownsRow 0 T s (.slice (some ⟨g, 0, none⟩) n c) n (l.flatMap f)) (hf : ∀ x, (f x).length = s) (h1 : ∀ x, ∀ u ∈ f x, u.oneCell' = true) (hn : l.length = n) (hk : k < n) : Cut2 W g s n c k ((l.take k).flatMap f) ((l.drop (k + 1)).flatMap f) := by
  refine ⟨?_, ?_, fun W' hb => part_a f ho (fun x _ => hf x) hn hk hb, fun W' hb => part_b f ho (fun x _ => hf x) hn hk hb, fun u hu => ?_, fun u hu => ?_, own_cap ho⟩
  · rw [flat_lenS f s _ (fun x _ => hf x), List.length_take]; congr 1; omega
  · rw [flat_lenS f s _ (fun x _ => hf x), List.length_drop, hn]
  · obtain ⟨x, _, hx⟩ := List.mem_flatMap.1 hu; exact h1 x u hx
  · obtain ⟨x, _, hx⟩ := List.mem_flatMap.1 hu; exact h1 x u hx
section
variable {w0 W W' : World} {xb : Nat} {ox : Obj} {F F' : Nat → Prop} {b bm : Nat} {V V' : Int → Value} {S S' : St} {vi vq vr va vi' vq' vr' va' : Value} {D D' : Nat → Prop} {Is Is' : List Int} {Qs Qs' : List Qx} {Rs Rs' : List Bool} {As As' : List Ax} {g n c k : Nat}
theorem Ow.cI (h : Ow w0 W xb ox F b bm V S (.slice (some ⟨g, 0, none⟩) n c) vq vr va D Is Qs Rs As) (hn : Is.length = n) (hk : k < n) : Cut2 W g 1 n c k ((Is.take k).flatMap (fun x => [iv x])) ((Is.drop (k + 1)).flatMap (fun x => [iv x])) :=
  cut2_of (fun x => [iv x]) (by have := h.on.i; rw [hn, map_flat] at this; exact this) (fun _ => rfl) (fun x u hu => by simp only [List.mem_singleton] at hu; rw [hu]; rfl) hn hk
theorem Ow.cQ (h : Ow w0 W xb ox F b bm V S vi (.slice (some ⟨g, 0, none⟩) n c) vr va D Is Qs Rs As) (hn : Qs.length = n) (hk : k < n) : Cut2 W g 6 n c k ((Qs.take k).flatMap qc) ((Qs.drop (k + 1)).flatMap qc) :=
  cut2_of qc (by have := h.on.q; rw [hn] at this; exact this) (fun _ => rfl) (fun x u hu => by simp [qc, rcl] at hu; rcases hu with rfl | rfl | rfl | rfl | rfl | rfl <;> rfl) hn hk
theorem Ow.cR (h : Ow w0 W xb ox F b bm V S vi vq (.slice (some ⟨g, 0, none⟩) n c) va D Is Qs Rs As) (hn : Rs.length = n) (hk : k < n) : Cut2 W g 1 n c k ((Rs.take k).flatMap (fun x => [.bool x])) ((Rs.drop (k + 1)).flatMap (fun x => [.bool x])) :=
  cut2_of (fun x => [.bool x]) (by have := h.on.r; rw [hn, map_flat] at this; exact this) (fun _ => rfl) (fun x u hu => by simp only [List.mem_singleton] at hu; rw [hu]; rfl) hn hk
theorem Ow.cA (h : Ow w0 W xb ox F b bm V S vi vq vr (.slice (some ⟨g, 0, none⟩) n c) D Is Qs Rs As) (hn : As.length = n) (hk : k < n) : Cut2 W g 1 n c k ((As.take k).flatMap (fun x => [ab x])) ((As.drop (k + 1)).flatMap (fun x => [ab x])) :=
  cut2_of (fun x => [ab x]) (by have := h.on.a; rw [hn, map_flat] at this; exact this) (fun _ => rfl) (fun x u hu => by simp only [List.mem_singleton] at hu; rw [hu]; rfl) hn hk
theorem Ow.nI (h : Ow w0 W xb ox F b bm V S vi vq vr va D Is Qs Rs As) (hn : Is.length = n) (hk : k < n) (hb : Below W.heap.size W W') (ho : W'.ownsRow W.heap.size TIn 1 vi' (k + (n - (k + 1))) ((Is.take k).flatMap (fun x => [iv x]) ++ (Is.drop (k + 1)).flatMap (fun x => [iv x]))) : Ow w0 W' xb ox F b bm V S vi' vq vr va D (Is.take k ++ Is.drop (k + 1)) Qs Rs As :=
  h.newI hb (len_cut hn hk) (by rw [map_flat, List.flatMap_append]; exact ho)
theorem Ow.nQ (h : Ow w0 W xb ox F b bm V S vi vq vr va D Is Qs Rs As) (hn : Qs.length = n) (hk : k < n) (hb : Below W.heap.size W W') (ho : W'.ownsRow W.heap.size TRq 6 vq' (k + (n - (k + 1))) ((Qs.take k).flatMap qc ++ (Qs.drop (k + 1)).flatMap qc)) : Ow w0 W' xb ox F b bm V S vi vq' vr va D Is (Qs.take k ++ Qs.drop (k + 1)) Rs As :=
  h.newQ hb (len_cut hn hk) (by rw [List.flatMap_append]; exact ho) (fun x hx => mem_cut hx)
theorem Ow.nR (h : Ow w0 W xb ox F b bm V S vi vq vr va D Is Qs Rs As) (hn : Rs.length = n) (hk : k < n) (hb : Below W.heap.size W W') (ho : W'.ownsRow W.heap.size TBo 1 vr' (k + (n - (k + 1))) ((Rs.take k).flatMap (fun x => [.bool x]) ++ (Rs.drop (k + 1)).flatMap (fun x => [.bool x]))) : Ow w0 W' xb ox F b bm V S vi vq vr' va D Is Qs (Rs.take k ++ Rs.drop (k + 1)) As :=
  h.newR hb (len_cut hn hk) (by rw [map_flat, List.flatMap_append]; exact ho)
theorem Ow.nA (h : Ow w0 W xb ox F b bm V S vi vq vr va D Is Qs Rs As) (hn : As.length = n) (hk : k < n) (hb : Below W.heap.size W W') (ho : W'.ownsRow W.heap.size TBy 1 va' (k + (n - (k + 1))) ((As.take k).flatMap (fun x => [ab x]) ++ (As.drop (k + 1)).flatMap (fun x => [ab x]))) : Ow w0 W' xb ox F b bm V S vi vq vr va' D Is Qs Rs (As.take k ++ As.drop (k + 1)) :=
  h.newA hb (len_cut hn hk) (by rw [map_flat, List.flatMap_append]; exact ho) (fun x hx => mem_cut hx)
theorem a_cellS {ga : Nat} (h : On W F b bm V S' vi vq vr (.slice (some ⟨ga, 0, none⟩) n c) D Is Qs Rs As) (hs : Same S Is Qs Rs As) (hn : S.L.length = n) (k : Nat) (e : En) (he : S.L[k]? = some e) : ∃ aa ac, W.cell? ⟨ga, k, none⟩ = some (.slice aa e.an.length ac) ∧ FRow W D aa ac e.an := by
  obtain ⟨l1, l2, l3, l4⟩ := hs.lens hn
  have hk := (List.getElem?_eq_some_iff.1 he).1
  have ha := h.a
  rw [l4] at ha
  obtain ⟨y, hy, hye⟩ := map_at hs.a (k := k) (y := e.an) (by simp [he])
  refine ⟨y.2.1, y.2.2, ?_, ?_⟩
  · rw [ha.cellAt k (by omega), List.getElem?_map, hy]
    simp [ab, hye]
  · have := h.pa y (List.mem_of_getElem? hy)
    rw [hye] at this; exact this
end
theorem brow_own {W : World} {B n c : Nat} {ao : Option Addr} {l : List Nat} (ho : W.ownsRow B 5 1 (.slice ao n c) n (l.map bv)) (hn : l.length = n) (hlt : ∀ x ∈ l, x < 256) (hlen : l.length ≤ 140737488351232) : BRow W ao c l := by
  subst hn
  obtain ⟨a, c', e, h⟩ := FRow.own (F := fun _ => True) ho hlt hlen (fun _ _ => trivial)
  simp only [Value.slice.injEq] at e
  obtain ⟨rfl, _, rfl⟩ := e
  exact h.row
theorem wrap_jj (k : Nat) (h : k ≤ 64) : IntKind.i64.wrap ((k : Int) + 1) = ((k + 1 : Nat) : Int) := by rw [IntKind.wrap_i64]; omega
theorem wrap_nj (n k : Nat) (h : k + 1 ≤ n) (hn : n ≤ 9223372036854775807) : IntKind.i64.wrap ((n : Int) - ((k + 1 : Nat) : Int)) = ((n - (k + 1) : Nat) : Int) := by rw [IntKind.wrap_i64]; omega
end Go.Proofs.Ytoabigjajnikcaa.O
