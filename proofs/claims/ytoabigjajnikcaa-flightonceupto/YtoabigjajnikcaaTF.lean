import Derived.Test.YtoabigjajnikcaaTE
namespace Go.Proofs.Ytoabigjajnikcaa
open Go.RowKit Go.Maps
attribute [local go_sem] Oper.semAt_some
set_option linter.unusedVariables false
set_option linter.unusedSimpArgs false
set_option maxRecDepth 100000

section
variable {w : World} {F : Nat → Prop} {b bm : Nat} {V : Int → Value} {S : St}
def clrS (S : St) : St := ⟨S.most, S.last, []⟩
theorem clrS_ok (h : SOk S) : SOk (clrS S) := ⟨h.m1, h.m2, by simp [clrS], by simp [clrS, ids], by simp [clrS, ids], by simp [clrS, ids], h.big⟩
theorem grown_kept {w w' : World} {X : Nat → Prop} {g : Nat} (h : w.grownBy w' (some g)) (hg : X g) : KeptIn X w w' :=
  ⟨h.os, h.tape, h.output, h.size, fun k hk hn => h.block k hk (fun e => by cases e; exact hn hg)⟩
theorem RT.turn {w' : World} {V' : Int → Value} {S' : St} (h : RT w F b bm V S) (ht : w.mapTurned w' bm) (hm : w'.ownsMap Try.prog TIn heldE bm S'.L.length (mapI (ids S'.L) V')) (hk : SOk S') (h1 : S'.most = S.most) (h2 : S'.last = S.last) (hp : ∀ e ∈ S'.L, PV w F (V' e.id) e) : TAct w w' F F b bm V' S' := by
  have hg := ht.grown
  have hK : KeptIn (fun g => g = bm) w w' := grown_kept hg rfl
  refine ⟨⟨fun g hgg => Nat.lt_of_lt_of_le (h.lt g hgg) hK.size, h.nb, h.nm, ?_, hm, fun e he => (hp e he).keep hK h.lt (fun g hgg e => h.nm (e ▸ hgg)), hk⟩, hK.mono (fun g _ e => .inr e), fun g hgg => .inl hgg⟩
  rw [hK.block b h.ltb h.ne, h.blk, h1, h2]
theorem TAct.from {w0 w' : World} {F' : Nat → Prop} {V' : Int → Value} {S' : St} (h : TAct w w' F F' b bm V' S') (hb : Below w0.heap.size w0 w) : TAct w0 w' F F' b bm V' S' :=
  ⟨h.rt, (KeptIn.ofBelow hb).trans h.kept (fun g hg hn => hn), fun g hg => (h.new g hg).imp (fun h => h) (fun h => Nat.le_trans hb.size h)⟩
theorem TAct.then {w' w'' : World} {F' : Nat → Prop} {V' : Int → Value} {S' : St} (h : TAct w w' F F' b bm V' S') (hb : Below w'.heap.size w' w'') : TAct w w'' F F' b bm V' S' :=
  ⟨h.rt.later hb, h.kept.trans (KeptIn.ofBelow (S := fun _ => False) hb) (fun _ _ _ h => h), h.new⟩
set_option maxHeartbeats 1000000 in
theorem clear_any (h : RT w F b bm V S) : Calls Try.prog 23 #[.pointer (some ⟨b, 0, none⟩)] w fun r w' => r = .returned (.int .i64 S.L.length) ∧ TAct w w' F F b bm V (clrS S) := by
  have hu := usable_any h
  have h2 : w.cell? ⟨b, 2, none⟩ = some (.map (some bm)) := h.c 2
  have hl : ∀ ty, (Builtin.len_ #[TMp] ty #[.map (some bm)]).run Try.prog w = .ok (.int .i64 S.L.length) w := fun ty => by
    have := h.mp.len Try.underlying74 ty
    rw [this, mapI_size]; simp [ids]
  obtain ⟨w', hr, hm, ht⟩ := clear_run h
  have HA : Hid (TAct w w' F F b bm V (clrS S)) := h.turn ht (by simpa [clrS, ids, mapI] using hm) (clrS_ok h.ok) rfl rfl (fun e he => by simp [clrS] at he)
  clear h hm ht
  go_enter Try.func23, Try.ntmps23
  go_wp2_with (first | (go_at_call 32; refine hu.mono ?_; rintro e w9 ⟨rfl, hw9⟩; rw [hw9]; clear hw9))
  go_ret
  exact ⟨rfl, HA.out⟩
theorem clear_not {po : Option Addr} (h : NoT w po) : Calls Try.prog 23 #[.pointer po] w fun r w' => r = .returned (.int .i64 0) ∧ w' = w := by
  have hu := usable_not h
  go_enter Try.func23, Try.ntmps23
  go_wp2_with (first | (go_at_call 32; refine hu.mono ?_; rintro e w9 ⟨rfl, hw9⟩; rw [hw9]; clear hw9))
  go_ret
  exact ⟨rfl, rfl⟩
set_option maxHeartbeats 2000000 in
theorem take_bad (po : Option Addr) (k er : Int) (c0 c1 c2 c3 c4 c5 c6 c8 : Value) (rd : Bool) (h1c : (#[c0, c1, c2, c3, c4, c5, c6, .bool rd, c8] : Array Value).all (·.oneCell') = true)
    (hf : Calls Try.prog 35 #[.pointer po, .int .i64 k] w fun r w'' => r = .returned (.tuple #[.agg #[c0, c1, c2, c3, c4, c5, c6, .bool rd, c8], .int .i64 er]) ∧ Below w.heap.size w w'') (hbad : er ≠ 0 ∨ er = 0 ∧ rd = false) :
    Calls Try.prog 21 #[.pointer po, .int .i64 k] w fun r w' => r = .returned (.tuple #[.slice none 0 0, .int .i64 (if er = 0 then 133 else er)]) ∧ Below w.heap.size w w' := by
  have H1 : Hid _ := h1c
  have HF : Hid _ := hf
  clear hf h1c
  rcases hbad with he | ⟨rfl, rfl⟩
  · rw [if_neg he]
    go_enter Try.func21, Try.ntmps21
    go_wp2_with fail
    refine Calls.mono HF.out ?_
    rintro r w1 ⟨rfl, hb1⟩
    have HBx : Hid _ := mkb1 w1 #[.int .i64 0, .int .u16 0, .int .u16 0, .int .u64 0, .int .u64 0, .int .u64 0, .slice none 0 0, .bool false, .slice none 0 0] TEn
    have Hb1 : Hid _ := hb1
    clear hb1
    go_wp2_with (first | (refine wpList_store_row rfl TEn _ _ rfl w1.heap.size #[c0, c1, c2, c3, c4, c5, c6, .bool rd, c8] rfl rfl TEn _ HBx.out.a infoEn rfl H1.out ?_))
    go_ret2
    exact ⟨rfl, below_row (Hb1.out.trans (HBx.out.bel.mono Hb1.out.size)) Hb1.out.size _⟩
  · rw [if_pos rfl]
    go_enter Try.func21, Try.ntmps21
    go_wp2_with fail
    refine Calls.mono HF.out ?_
    rintro r w1 ⟨rfl, hb1⟩
    have HBx : Hid _ := mkb1 w1 #[.int .i64 0, .int .u16 0, .int .u16 0, .int .u64 0, .int .u64 0, .int .u64 0, .slice none 0 0, .bool false, .slice none 0 0] TEn
    have Hb1 : Hid _ := hb1
    clear hb1
    go_wp2_with (first | (refine wpList_store_row rfl TEn _ _ rfl w1.heap.size #[c0, c1, c2, c3, c4, c5, c6, .bool false, c8] rfl rfl TEn _ HBx.out.a infoEn rfl H1.out ?_; have z7 : ((w1.alloc (.cells #[.int .i64 0, .int .u16 0, .int .u16 0, .int .u64 0, .int .u64 0, .int .u64 0, .slice none 0 0, .bool false, .slice none 0 0] TEn)).setRow w1.heap.size #[c0, c1, c2, c3, c4, c5, c6, .bool false, c8]).cell? ⟨w1.heap.size, 7, none⟩ = some (.bool false) := (blk_at (setRow_heap _ _ _ _ _ _ HBx.out.a) 7).trans rfl))
    go_ret2
    exact ⟨rfl, below_row (Hb1.out.trans (HBx.out.bel.mono Hb1.out.size)) Hb1.out.size _⟩
def takeS (S : St) (k : Int) : St := ⟨S.most, S.last, S.L.filter (fun e => decide (e.id ≠ k))⟩
theorem ids_take (L : List En) (k : Int) : ids (L.filter (fun e => decide (e.id ≠ k))) = (ids L).filter (· ≠ k) := by
  unfold ids; rw [List.filter_map]; rfl
theorem takeS_ok (h : SOk S) (k : Int) : SOk (takeS S k) := by
  refine ⟨h.m1, h.m2, Nat.le_trans (List.length_filter_le _ _) h.len, ?_, fun i hi => ?_, fun i hi => ?_, h.big⟩
  · show (ids (S.L.filter (fun e => decide (e.id ≠ k)))).Pairwise _
    rw [ids_take]; exact h.rise.filter _
  · have : i ∈ ids (S.L.filter (fun e => decide (e.id ≠ k))) := hi
    rw [ids_take] at this; exact h.pos i ((List.mem_filter.1 this).1)
  · have : i ∈ ids (S.L.filter (fun e => decide (e.id ≠ k))) := hi
    rw [ids_take] at this; exact h.top i ((List.mem_filter.1 this).1)
set_option maxHeartbeats 4000000 in
theorem take_ok (h : RT w F b bm V S) (e : En) (he : e ∈ S.L) (hrd : e.rd = true) : Calls Try.prog 21 #[.pointer (some ⟨b, 0, none⟩), .int .i64 e.id] w fun r w' => ∃ ao cap, r = .returned (.tuple #[.slice ao e.an.length cap, .int .i64 0]) ∧ w'.ownsRow w.heap.size 5 1 (.slice ao e.an.length cap) e.an.length (e.an.map bv) ∧ TAct w w' F F b bm V (takeS S e.id) := by
  obtain ⟨da, dc, aa, ac, hv, r1, r2⟩ := (h.pv e he).ex
  have HF : Hid _ := find_yes h e.id (ids_mem he) _ _ _ _ _ _ _ _ _ hv (oneEcl e da aa dc ac)
  have H1 : Hid _ := oneEcl e da aa dc ac
  have H : Hid _ := h
  have R2 : Hid _ := r2
  have hw := h.wf (ids_mem he)
  obtain ⟨n2, hn2⟩ : ∃ n, e.an.length = n := ⟨_, rfl⟩
  obtain ⟨n1, hn1⟩ : ∃ n, e.rq.data.length = n := ⟨_, rfl⟩
  have HN2 : Hid _ := hn2
  simp only [ecl, hn2, hn1, hrd] at H1 HF
  rw [hn2]
  clear h r1 r2 hn2 hn1
  go_enter Try.func21, Try.ntmps21
  go_wp2_with fail
  refine Calls.mono HF.out ?_
  rintro r w1 ⟨rfl, hb1⟩
  have HBx : Hid _ := mkb1 w1 #[.int .i64 0, .int .u16 0, .int .u16 0, .int .u64 0, .int .u64 0, .int .u64 0, .slice none 0 0, .bool false, .slice none 0 0] TEn
  have HB3 : Hid _ := setRow_heap _ w1.heap.size _ #[.int .i64 e.id, .int .u16 e.rq.fl, .int .u16 e.rq.ty, .int .u64 e.rq.ck, .int .u64 e.rq.off, .int .u64 e.rq.len, .slice da n1 dc, .bool true, .slice aa n2 ac] TEn _ HBx.out.a
  have HBl : Hid (Below w.heap.size w ((w1.alloc (.cells #[.int .i64 0, .int .u16 0, .int .u16 0, .int .u64 0, .int .u64 0, .int .u64 0, .slice none 0 0, .bool false, .slice none 0 0] TEn)).setRow w1.heap.size #[.int .i64 e.id, .int .u16 e.rq.fl, .int .u16 e.rq.ty, .int .u64 e.rq.ck, .int .u64 e.rq.off, .int .u64 e.rq.len, .slice da n1 dc, .bool true, .slice aa n2 ac])) := below_row (hb1.trans (HBx.out.bel.mono hb1.size)) hb1.size _
  clear hb1
  go_wp2_with (first | (refine wpList_store_row rfl TEn _ _ rfl w1.heap.size #[.int .i64 e.id, .int .u16 e.rq.fl, .int .u16 e.rq.ty, .int .u64 e.rq.ck, .int .u64 e.rq.off, .int .u64 e.rq.len, .slice da n1 dc, .bool true, .slice aa n2 ac] rfl rfl TEn _ HBx.out.a infoEn rfl H1.out ?_; generalize ((w1.alloc (.cells #[.int .i64 0, .int .u16 0, .int .u16 0, .int .u64 0, .int .u64 0, .int .u64 0, .slice none 0 0, .bool false, .slice none 0 0] TEn)).setRow w1.heap.size #[.int .i64 e.id, .int .u16 e.rq.fl, .int .u16 e.rq.ty, .int .u64 e.rq.ck, .int .u64 e.rq.off, .int .u64 e.rq.len, .slice da n1 dc, .bool true, .slice aa n2 ac]) = W at *; have z7 : W.cell? ⟨w1.heap.size, 7, none⟩ = some (.bool true) := (blk_at HB3.out 7).trans rfl; have hc2 : W.cell? ⟨b, 2, none⟩ = some (.map (some bm)) := (H.out.later HBl.out).c 2) | (at_delete; refine wpList_delete_own _ rfl _ _ TMp TIn rfl TEn keyed Try.underlying74 _ bm _ _ rfl (H.out.later HBl.out).mp _ _ rfl (keyAt hw) ?_; intro w3 hown3 hturn3; have z8 : w3.cell? ⟨w1.heap.size, 8, none⟩ = some (.slice aa n2 ac) := ((cell_block (hturn3.grown.block w1.heap.size (block_lt HB3.out) (fun e9 => by cases e9; obtain ⟨es, ck, h9, _⟩ := (H.out.later HBl.out).mp; rw [HB3.out] at h9; cases h9))).trans ((blk_at HB3.out 8).trans rfl))) | fail)
  have hA : TAct w w3 F F b bm V (takeS S e.id) := TAct.from (w := W) ((H.out.later HBl.out).turn hturn3 (by
    have := ownsMap_tight hown3
    rw [mapI_del, ← ids_take, mapI_size] at this
    simpa [takeS, ids] using this) (takeS_ok H.out.ok e.id) rfl rfl (fun e' he' => (H.out.later HBl.out).pv e' (List.mem_filter.1 he').1)) HBl.out
  have hK3 : KeptIn (fun g => g = bm) w w3 := (KeptIn.ofBelow (S := fun g => g = bm) HBl.out).trans (grown_kept (X := fun g => g = bm) hturn3.grown rfl) (fun _ _ hn => hn)
  have HA : Hid _ := hA
  refine (clone_any aa ac n2 e.an w3 (R2.out.keep hK3 H.out.lt (fun g hg e => H.out.nm (e ▸ hg))).row HN2.out).mono ?_
  rintro r w4 ⟨ao, cap, rfl, ho, hb⟩
  have HO : Hid (w4.ownsRow w.heap.size 5 1 (.slice ao n2 cap) n2 (e.an.map bv)) := owns_mono ho hK3.size
  have HA4 : Hid _ := HA.out.then hb
  clear ho hb hA hK3 hown3 hturn3
  go_wp2
  go_ret2
  exact ⟨ao, cap, rfl, HO.out, HA4.out⟩
end
end Go.Proofs.Ytoabigjajnikcaa
