import Derived.Test.YtoabigjajnikcaaTOe
namespace Go.Proofs.Ytoabigjajnikcaa.O
open Go.RowKit Go.Maps Go.Proofs.Ytoabigjajnikcaa
set_option linter.unusedVariables false
set_option linter.unusedSimpArgs false
set_option maxRecDepth 100000
section
variable {w0 W W' : World} {xb : Nat} {ox : Obj} {F F' : Nat → Prop} {b bm : Nat} {V V' : Int → Value} {S S' : St} {vi vq vr va vi' vq' vr' va' : Value} {D D' : Nat → Prop} {Is Is' : List Int} {Qs Qs' : List Qx} {Rs Rs' : List Bool} {As As' : List Ax}
/-- the table and the lists, the box of the call, and all that was there ahead of the law -/
structure Ow (w0 W : World) (xb : Nat) (ox : Obj) (F : Nat → Prop) (b bm : Nat) (V : Int → Value) (S : St) (vi vq vr va : Value) (D : Nat → Prop) (Is : List Int) (Qs : List Qx) (Rs : List Bool) (As : List Ax) : Prop where
  on : On W F b bm V S vi vq vr va D Is Qs Rs As
  lo : LoV w0.heap.size vi vq vr va
  be : Below w0.heap.size w0 W
  lb : w0.heap.size ≤ b ∧ w0.heap.size ≤ bm
  bx : W.heap[xb]? = some ox
  nb : b ≠ xb ∧ bm ≠ xb
  nx : vi.ownBlock ≠ some xb ∧ vq.ownBlock ≠ some xb ∧ vr.ownBlock ≠ some xb ∧ va.ownBlock ≠ some xb
theorem Ow.later (h : Ow w0 W xb ox F b bm V S vi vq vr va D Is Qs Rs As) (hb : Below W.heap.size W W') : Ow w0 W' xb ox F b bm V S vi vq vr va D Is Qs Rs As :=
  ⟨h.on.later hb, h.lo, h.be.trans (hb.mono h.be.size), h.lb, (hb.block xb (block_lt h.bx)).trans h.bx, h.nb, h.nx⟩
theorem Ow.actT (h : Ow w0 W xb ox F b bm V S vi vq vr va D Is Qs Rs As) (a : TAct W W' F F' b bm V' S') : Ow w0 W' xb ox F' b bm V' S' vi vq vr va D Is Qs Rs As :=
  ⟨h.on.actT a, h.lo, h.be.trans (a.kept.below h.be.size (fun g hg e => by have := h.lb; omega)), h.lb, (a.kept.block xb (block_lt h.bx) (fun e => by have := h.nb; omega)).trans h.bx, h.nb, h.nx⟩
theorem Ow.addD (h : Ow w0 W xb ox F b bm V S vi vq vr va D Is Qs Rs As) (hb : Below W.heap.size W W') {v : Value} {B n : Nat} {xs : List Value} (ho : W'.ownsRow B 5 1 v n xs) (hB : W.heap.size ≤ B) : Ow w0 W' xb ox F b bm V S vi vq vr va (fun g => D g ∨ v.ownBlock = some g) Is Qs Rs As :=
  ⟨h.on.addD hb ho hB, h.lo, h.be.trans (hb.mono h.be.size), h.lb, (hb.block xb (block_lt h.bx)).trans h.bx, h.nb, h.nx⟩
theorem Ow.rowI (h : Ow w0 W xb ox F b bm V S vi vq vr va D Is Qs Rs As) (hk : KeptIn (fun g => vi.ownBlock = some g) W W') (ho : W'.ownsRow 0 TIn 1 vi' Is'.length (Is'.map iv)) (hn : ∀ g, vi'.ownBlock = some g → vi.ownBlock = some g ∨ W.heap.size ≤ g) : Ow w0 W' xb ox F b bm V S vi' vq vr va D Is' Qs Rs As :=
  ⟨h.on.rowI hk ho hn, fun g hg => hg.elim (fun e => (hn g e).elim (fun e => h.lo g (.inl e)) (fun e => Nat.le_trans h.be.size e)) (fun e => h.lo g (.inr e)), h.be.trans (hk.below h.be.size (fun g hg e => by have := h.lo g (.inl e); omega)), h.lb, (hk.block xb (block_lt h.bx) (fun e => h.nx.1 e)).trans h.bx, h.nb, fun e => (hn xb e).elim (fun e => h.nx.1 e) (fun e => by have := block_lt h.bx; omega), h.nx.2⟩
theorem Ow.rowQ (h : Ow w0 W xb ox F b bm V S vi vq vr va D Is Qs Rs As) (hk : KeptIn (fun g => vq.ownBlock = some g) W W') (ho : W'.ownsRow 0 TRq 6 vq' Qs'.length (Qs'.flatMap qc)) (hn : ∀ g, vq'.ownBlock = some g → vq.ownBlock = some g ∨ W.heap.size ≤ g) (hp : ∀ x ∈ Qs', FRow W D x.2.1 x.2.2 x.1.data) : Ow w0 W' xb ox F b bm V S vi vq' vr va D Is Qs' Rs As :=
  ⟨h.on.rowQ hk ho hn hp, fun g hg => hg.elim (fun e => h.lo g (.inl e)) (fun hg => hg.elim (fun e => (hn g e).elim (fun e => h.lo g (.inr (.inl e))) (fun e => Nat.le_trans h.be.size e)) (fun e => h.lo g (.inr (.inr e)))), h.be.trans (hk.below h.be.size (fun g hg e => by have := h.lo g (.inr (.inl e)); omega)), h.lb, (hk.block xb (block_lt h.bx) (fun e => h.nx.2.1 e)).trans h.bx, h.nb, h.nx.1, fun e => (hn xb e).elim (fun e => h.nx.2.1 e) (fun e => by have := block_lt h.bx; omega), h.nx.2.2⟩
theorem Ow.rowR (h : Ow w0 W xb ox F b bm V S vi vq vr va D Is Qs Rs As) (hk : KeptIn (fun g => vr.ownBlock = some g) W W') (ho : W'.ownsRow 0 TBo 1 vr' Rs'.length (Rs'.map .bool)) (hn : ∀ g, vr'.ownBlock = some g → vr.ownBlock = some g ∨ W.heap.size ≤ g) : Ow w0 W' xb ox F b bm V S vi vq vr' va D Is Qs Rs' As :=
  ⟨h.on.rowR hk ho hn, fun g hg => hg.elim (fun e => h.lo g (.inl e)) (fun hg => hg.elim (fun e => h.lo g (.inr (.inl e))) (fun hg => hg.elim (fun e => (hn g e).elim (fun e => h.lo g (.inr (.inr (.inl e)))) (fun e => Nat.le_trans h.be.size e)) (fun e => h.lo g (.inr (.inr (.inr e)))))), h.be.trans (hk.below h.be.size (fun g hg e => by have := h.lo g (.inr (.inr (.inl e))); omega)), h.lb, (hk.block xb (block_lt h.bx) (fun e => h.nx.2.2.1 e)).trans h.bx, h.nb, h.nx.1, h.nx.2.1, fun e => (hn xb e).elim (fun e => h.nx.2.2.1 e) (fun e => by have := block_lt h.bx; omega), h.nx.2.2.2⟩
theorem Ow.rowA (h : Ow w0 W xb ox F b bm V S vi vq vr va D Is Qs Rs As) (hk : KeptIn (fun g => va.ownBlock = some g) W W') (ho : W'.ownsRow 0 TBy 1 va' As'.length (As'.map ab)) (hn : ∀ g, va'.ownBlock = some g → va.ownBlock = some g ∨ W.heap.size ≤ g) (hp : ∀ x ∈ As', FRow W D x.2.1 x.2.2 x.1) : Ow w0 W' xb ox F b bm V S vi vq vr va' D Is Qs Rs As' :=
  ⟨h.on.rowA hk ho hn hp, fun g hg => hg.elim (fun e => h.lo g (.inl e)) (fun hg => hg.elim (fun e => h.lo g (.inr (.inl e))) (fun hg => hg.elim (fun e => h.lo g (.inr (.inr (.inl e)))) (fun e => (hn g e).elim (fun e => h.lo g (.inr (.inr (.inr e)))) (fun e => Nat.le_trans h.be.size e)))), h.be.trans (hk.below h.be.size (fun g hg e => by have := h.lo g (.inr (.inr (.inr e))); omega)), h.lb, (hk.block xb (block_lt h.bx) (fun e => h.nx.2.2.2 e)).trans h.bx, h.nb, h.nx.1, h.nx.2.1, h.nx.2.2.1, fun e => (hn xb e).elim (fun e => h.nx.2.2.2 e) (fun e => by have := block_lt h.bx; omega)⟩
/-- an append behind an alloc -/
theorem app_kept {v : Value} {o : Obj} (hg : (W.alloc o).grownBy W' v.ownBlock) : KeptIn (fun g => v.ownBlock = some g) W W' :=
  (KeptIn.ofBelow (S := fun g => v.ownBlock = some g) (below1 W o)).trans (grown_own hg) (fun _ _ h => h)
theorem app_new {v v' : Value} {o : Obj} (hat : v'.ownBlock = v.ownBlock ∨ v'.ownBlock = some (W.alloc o).heap.size) : ∀ g, v'.ownBlock = some g → v.ownBlock = some g ∨ W.heap.size ≤ g := fun g hg => by
  rcases hat with e | e
  · left; rw [← e]; exact hg
  · right
    rw [e, size1] at hg
    simp only [Option.some.injEq] at hg
    omega
theorem Ow.appI (h : Ow w0 W xb ox F b bm V S vi vq vr va D Is Qs Rs As) {n : Nat} (hn : Is.length = n) {x : Int} {o : Obj} (ho : W'.ownsRow 0 TIn 1 vi' (n + 1) (Is.map iv ++ [.int .i64 x])) (hg : (W.alloc o).grownBy W' vi.ownBlock) (hat : vi'.ownBlock = vi.ownBlock ∨ vi'.ownBlock = some (W.alloc o).heap.size) : Ow w0 W' xb ox F b bm V S vi' vq vr va D (Is ++ [x]) Qs Rs As :=
  h.rowI (app_kept hg) (by rw [List.length_append, List.map_append, hn]; exact ho) (app_new hat)
theorem Ow.appQ (h : Ow w0 W xb ox F b bm V S vi vq vr va D Is Qs Rs As) {n : Nat} (hn : Qs.length = n) {x : Qx} {o : Obj} (ho : W'.ownsRow 0 TRq 6 vq' (n + 1) (Qs.flatMap qc ++ qc x)) (hg : (W.alloc o).grownBy W' vq.ownBlock) (hat : vq'.ownBlock = vq.ownBlock ∨ vq'.ownBlock = some (W.alloc o).heap.size) (hp : FRow W D x.2.1 x.2.2 x.1.data) : Ow w0 W' xb ox F b bm V S vi vq' vr va D Is (Qs ++ [x]) Rs As :=
  h.rowQ (app_kept hg) (by rw [List.length_append, List.flatMap_append, hn, List.flatMap_singleton]; exact ho) (app_new hat) (fun y hy => by
    rcases List.mem_append.1 hy with hy | hy
    · exact h.on.pd y hy
    · simp only [List.mem_singleton] at hy
      rw [hy]; exact hp)
theorem Ow.appR (h : Ow w0 W xb ox F b bm V S vi vq vr va D Is Qs Rs As) {n : Nat} (hn : Rs.length = n) {x : Bool} {o : Obj} (ho : W'.ownsRow 0 TBo 1 vr' (n + 1) (Rs.map .bool ++ [.bool x])) (hg : (W.alloc o).grownBy W' vr.ownBlock) (hat : vr'.ownBlock = vr.ownBlock ∨ vr'.ownBlock = some (W.alloc o).heap.size) : Ow w0 W' xb ox F b bm V S vi vq vr' va D Is Qs (Rs ++ [x]) As :=
  h.rowR (app_kept hg) (by rw [List.length_append, List.map_append, hn]; exact ho) (app_new hat)
theorem Ow.appA (h : Ow w0 W xb ox F b bm V S vi vq vr va D Is Qs Rs As) {n : Nat} (hn : As.length = n) {o : Obj} (ho : W'.ownsRow 0 TBy 1 va' (n + 1) (As.map ab ++ [.slice none 0 0])) (hg : (W.alloc o).grownBy W' va.ownBlock) (hat : va'.ownBlock = va.ownBlock ∨ va'.ownBlock = some (W.alloc o).heap.size) : Ow w0 W' xb ox F b bm V S vi vq vr va' D Is Qs Rs (As ++ [([], none, 0)]) :=
  h.rowA (app_kept hg) (by rw [List.length_append, List.map_append, hn]; exact ho) (app_new hat) (fun y hy => by
    rcases List.mem_append.1 hy with hy | hy
    · exact h.on.pa y hy
    · simp only [List.mem_singleton] at hy
      rw [hy]; exact FRow.nil _ _)
theorem set_kept {g n c : Nat} (j : Nat) (u : Value) : KeptIn (fun k => (Value.slice (some ⟨g, 0, none⟩) n c).ownBlock = some k) W (W.setCell ⟨g, j, none⟩ u) :=
  (keptIn_set W g j u).mono (fun k _ e => by rw [e]; rfl)
theorem Ow.setR {g n c : Nat} (h : Ow w0 W xb ox F b bm V S vi vq (.slice (some ⟨g, 0, none⟩) n c) va D Is Qs Rs As) (hn : Rs.length = n) (j : Nat) (x : Bool) : Ow w0 (W.setCell ⟨g, j, none⟩ (.bool x)) xb ox F b bm V S vi vq (.slice (some ⟨g, 0, none⟩) n c) va D Is Qs (Rs.set j x) As :=
  h.rowR (set_kept j _) (by
    have ho := h.on.r
    rw [hn] at ho
    obtain ⟨st, _⟩ := ho.stored j (.bool x)
    rw [List.length_set, hn, List.map_set]; exact st) (fun _ e => .inl e)
theorem Ow.setA {g n c : Nat} (h : Ow w0 W xb ox F b bm V S vi vq vr (.slice (some ⟨g, 0, none⟩) n c) D Is Qs Rs As) (hn : As.length = n) (j : Nat) (x : Ax) (hp : FRow W D x.2.1 x.2.2 x.1) : Ow w0 (W.setCell ⟨g, j, none⟩ (ab x)) xb ox F b bm V S vi vq vr (.slice (some ⟨g, 0, none⟩) n c) D Is Qs Rs (As.set j x) :=
  h.rowA (set_kept j _) (by
    have ho := h.on.a
    rw [hn] at ho
    obtain ⟨st, _⟩ := ho.stored j (ab x)
    rw [List.length_set, hn, List.map_set]; exact st) (fun _ e => .inl e) (fun y hy => by
    rcases List.mem_or_eq_of_mem_set hy with hy | hy
    · exact h.on.pa y hy
    · rw [hy]; exact hp)
theorem Same.done (h : Same S Is Qs Rs As) (hok : SOk S) {k : Nat} {e : En} (he : S.L[k]? = some e) (l : List Nat) (aa : Option Addr) (ac : Nat) : Same (doneS S e.id l) Is Qs (Rs.set k true) (As.set k (l, aa, ac)) := by
  obtain ⟨A, B, hL, hAk⟩ := split_at S.L k e he
  obtain ⟨hA, hB⟩ := split_ids (by rw [← hL]; exact hok.rise)
  have hD : (doneS S e.id l).L = A ++ ⟨e.id, e.rq, true, l⟩ :: B := by
    simp only [doneS, hL]
    exact split_done hA hB _ (by simp) (fun x hx => by simp [hx])
  subst hAk
  refine ⟨?_, ?_, ?_, ?_⟩
  · rw [h.i, hD, hL]; simp [ids]
  · rw [h.q, hD, hL]; simp
  · rw [h.r, hD, hL]; simp [List.set_append_right]
  · rw [List.map_set, h.a, hD, hL]; simp [List.set_append_right]
theorem cut_list {α β : Type} (f : α → β) {A B : List α} {e : α} : ((A ++ e :: B).map f).take A.length ++ ((A ++ e :: B).map f).drop (A.length + 1) = (A ++ B).map f := by
  rw [List.map_append, List.map_cons, List.take_left' (by simp), ← List.drop_drop, List.drop_left' (by simp)]
  simp
theorem Same.take (h : Same S Is Qs Rs As) (hok : SOk S) {k : Nat} {e : En} (he : S.L[k]? = some e) : Same (takeS S e.id) (Is.take k ++ Is.drop (k + 1)) (Qs.take k ++ Qs.drop (k + 1)) (Rs.take k ++ Rs.drop (k + 1)) (As.take k ++ As.drop (k + 1)) := by
  obtain ⟨A, B, hL, hAk⟩ := split_at S.L k e he
  obtain ⟨hA, hBn⟩ := split_ids (by rw [← hL]; exact hok.rise)
  have hT : (takeS S e.id).L = A ++ B := by
    simp only [takeS, hL]
    exact split_take hA hBn
  subst hAk
  refine ⟨?_, ?_, ?_, ?_⟩
  · rw [h.i, hT, hL, ids, cut_list]; rfl
  · rw [List.map_append, List.map_take, List.map_drop, h.q, hT, hL, cut_list]
  · rw [h.r, hT, hL, cut_list]
  · rw [List.map_append, List.map_take, List.map_drop, h.a, hT, hL, cut_list]
/-- a new list in place of one -/
theorem Ow.newI (h : Ow w0 W xb ox F b bm V S vi vq vr va D Is Qs Rs As) (hb : Below W.heap.size W W') {n : Nat} (hn : Is'.length = n) (ho : W'.ownsRow W.heap.size TIn 1 vi' n (Is'.map iv)) : Ow w0 W' xb ox F b bm V S vi' vq vr va D Is' Qs Rs As :=
  h.rowI (KeptIn.ofBelow hb) (by rw [hn]; exact owns_mono ho (Nat.zero_le _)) (fun g hg => .inr (row_lt ho g hg).2.1)
theorem Ow.newQ (h : Ow w0 W xb ox F b bm V S vi vq vr va D Is Qs Rs As) (hb : Below W.heap.size W W') {n : Nat} (hn : Qs'.length = n) (ho : W'.ownsRow W.heap.size TRq 6 vq' n (Qs'.flatMap qc)) (hs : ∀ x ∈ Qs', x ∈ Qs) : Ow w0 W' xb ox F b bm V S vi vq' vr va D Is Qs' Rs As :=
  h.rowQ (KeptIn.ofBelow hb) (by rw [hn]; exact owns_mono ho (Nat.zero_le _)) (fun g hg => .inr (row_lt ho g hg).2.1) (fun x hx => h.on.pd x (hs x hx))
theorem Ow.newR (h : Ow w0 W xb ox F b bm V S vi vq vr va D Is Qs Rs As) (hb : Below W.heap.size W W') {n : Nat} (hn : Rs'.length = n) (ho : W'.ownsRow W.heap.size TBo 1 vr' n (Rs'.map .bool)) : Ow w0 W' xb ox F b bm V S vi vq vr' va D Is Qs Rs' As :=
  h.rowR (KeptIn.ofBelow hb) (by rw [hn]; exact owns_mono ho (Nat.zero_le _)) (fun g hg => .inr (row_lt ho g hg).2.1)
theorem Ow.newA (h : Ow w0 W xb ox F b bm V S vi vq vr va D Is Qs Rs As) (hb : Below W.heap.size W W') {n : Nat} (hn : As'.length = n) (ho : W'.ownsRow W.heap.size TBy 1 va' n (As'.map ab)) (hs : ∀ x ∈ As', x ∈ As) : Ow w0 W' xb ox F b bm V S vi vq vr va' D Is Qs Rs As' :=
  h.rowA (KeptIn.ofBelow hb) (by rw [hn]; exact owns_mono ho (Nat.zero_le _)) (fun g hg => .inr (row_lt ho g hg).2.1) (fun x hx => h.on.pa x (hs x hx))
theorem mem_cut {α : Type} {l : List α} {k : Nat} {x : α} (h : x ∈ l.take k ++ l.drop (k + 1)) : x ∈ l := by
  rcases List.mem_append.1 h with h | h
  · exact List.mem_of_mem_take h
  · exact List.mem_of_mem_drop h
theorem len_cut {α : Type} {l : List α} {k n : Nat} (h : l.length = n) (hk : k < n) : (l.take k ++ l.drop (k + 1)).length = k + (n - (k + 1)) := by
  rw [List.length_append, List.length_take, List.length_drop]; omega
theorem flat_lenS {α : Type} (f : α → List Value) (s : Nat) : ∀ (L : List α), (∀ x ∈ L, (f x).length = s) → (L.flatMap f).length = L.length * s
  | [], _ => by simp
  | x :: L, h => by
    rw [List.flatMap_cons, List.length_append, flat_lenS f s L (fun y hy => h y (List.mem_cons_of_mem _ hy)), h x (List.mem_cons_self ..), List.length_cons, Nat.add_mul]
    omega
theorem map_flat {α : Type} (f : α → Value) (l : List α) : l.map f = l.flatMap (fun x => [f x]) := by
  induction l with
  | nil => rfl
  | cons x l ih => rw [List.map_cons, List.flatMap_cons, ih]; rfl
/-- the parts of a row, for two appends -/
theorem part_a {T s g n c : Nat} {α : Type} (f : α → List Value) {l : List α} (ho : W.ownsRow 0 T s (.slice (some ⟨g, 0, none⟩) n c) n (l.flatMap f)) (hf : ∀ x ∈ l, (f x).length = s) (hn : l.length = n) {k : Nat} (hk : k < n) (hb : Below W.heap.size W W') : ∀ j u, ((l.take k).flatMap f)[j]? = some u → W'.cell? ((⟨g, 0, none⟩ : Addr).add j) = some u := fun j u hu => by
  have hgl := (row_lt ho g rfl).1
  have hla : ((l.take k).flatMap f).length = k * s := by rw [flat_lenS f s _ (fun x hx => hf x (List.mem_of_mem_take hx)), List.length_take]; congr 1; omega
  have hj : j < k * s := by
    have := (List.getElem?_eq_some_iff.1 hu).1
    omega
  have hks : k * s ≤ n * s := Nat.mul_le_mul_right _ (by omega)
  rw [add_plain, cell_block (hb.block g hgl), Nat.zero_add, ho.cellAt j (by omega), ← hu]
  conv => lhs; rw [show l = l.take k ++ l.drop k from (List.take_append_drop k l).symm]
  rw [List.flatMap_append, List.getElem?_append_left (by omega)]
theorem part_b {T s g n c : Nat} {α : Type} (f : α → List Value) {l : List α} (ho : W.ownsRow 0 T s (.slice (some ⟨g, 0, none⟩) n c) n (l.flatMap f)) (hf : ∀ x ∈ l, (f x).length = s) (hn : l.length = n) {k : Nat} (hk : k < n) (hb : Below W.heap.size W W') : ∀ j u, ((l.drop (k + 1)).flatMap f)[j]? = some u → W'.cell? ((⟨g, (k + 1) * s, none⟩ : Addr).add j) = some u := fun j u hu => by
  have hgl := (row_lt ho g rfl).1
  have hlb : ((l.drop (k + 1)).flatMap f).length = (n - (k + 1)) * s := by rw [flat_lenS f s _ (fun x hx => hf x (List.mem_of_mem_drop hx)), List.length_drop, hn]
  have hla : ((l.take (k + 1)).flatMap f).length = (k + 1) * s := by rw [flat_lenS f s _ (fun x hx => hf x (List.mem_of_mem_take hx)), List.length_take]; congr 1; omega
  have hj : j < (n - (k + 1)) * s := by
    have := (List.getElem?_eq_some_iff.1 hu).1
    omega
  have hsum : (k + 1) * s + (n - (k + 1)) * s = n * s := by rw [← Nat.add_mul]; congr 1; omega
  rw [add_plain, cell_block (hb.block g hgl), ho.cellAt _ (by omega), ← hu]
  conv => lhs; rw [show l = l.take (k + 1) ++ l.drop (k + 1) from (List.take_append_drop (k + 1) l).symm]
  rw [List.flatMap_append, List.getElem?_append_right (by omega), hla]
  congr 1; omega
end
end Go.Proofs.Ytoabigjajnikcaa.O
