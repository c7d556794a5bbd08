import Derived.Test.YtoabigjajnikcaaTF
namespace Go.Proofs.Ytoabigjajnikcaa
open Go.RowKit Go.Maps
attribute [local go_sem] Oper.semAt_some
set_option linter.unusedVariables false
set_option linter.unusedSimpArgs false
set_option maxRecDepth 100000

section
variable {w : World} {F : Nat → Prop} {b bm : Nat} {V : Int → Value} {S : St}
def doneS (S : St) (k : Int) (l : List Nat) : St := ⟨S.most, S.last, S.L.map (fun e => if e.id = k then ⟨e.id, e.rq, true, l⟩ else e)⟩
theorem ids_done (L : List En) (k : Int) (l : List Nat) : ids (L.map (fun e => if e.id = k then ⟨e.id, e.rq, true, l⟩ else e)) = ids L := by
  unfold ids; rw [List.map_map]
  apply List.map_congr_left
  intro e _
  simp only [Function.comp]
  split <;> rfl
theorem doneS_ok (h : SOk S) (k : Int) (l : List Nat) : SOk (doneS S k l) := by
  have e := ids_done S.L k l
  have e' : ids (doneS S k l).L = ids S.L := e
  refine ⟨h.m1, h.m2, by simpa [doneS] using h.len, ?_, ?_, ?_, h.big⟩
  · rw [e']; exact h.rise
  · rw [e']; exact h.pos
  · rw [e']; exact h.top
theorem id_inj : ∀ {L : List En}, (ids L).Pairwise (· < ·) → ∀ e ∈ L, ∀ e' ∈ L, e.id = e'.id → e = e'
  | [], _, e, he, _, _, _ => by cases he
  | x :: L, hp, e, he, e', he', hid => by
    have h := List.pairwise_cons.1 hp
    rcases List.mem_cons.1 he with rfl | h1 <;> rcases List.mem_cons.1 he' with rfl | h2
    · rfl
    · have h3 : e.id < e'.id := h.1 _ (ids_mem h2)
      omega
    · have h3 : e'.id < e.id := h.1 _ (ids_mem h1)
      omega
    · exact id_inj h.2 e h1 e' h2 hid
set_option maxHeartbeats 2000000 in
theorem done_bad (po : Option Addr) (k er : Int) (vA : Value) (c0 c1 c2 c3 c4 c5 c6 c8 : Value) (rd : Bool) (h1c : (#[c0, c1, c2, c3, c4, c5, c6, .bool rd, c8] : Array Value).all (·.oneCell') = true)
    (hf : Calls Try.prog 35 #[.pointer po, .int .i64 k] w fun r w'' => r = .returned (.tuple #[.agg #[c0, c1, c2, c3, c4, c5, c6, .bool rd, c8], .int .i64 er]) ∧ Below w.heap.size w w'') (hbad : er ≠ 0 ∨ er = 0 ∧ rd = true) :
    Calls Try.prog 19 #[.pointer po, .int .i64 k, vA] w fun r w' => r = .returned (.int .i64 (if er = 0 then 133 else er)) ∧ Below w.heap.size w w' := by
  have H1 : Hid _ := h1c
  have HF : Hid _ := hf
  clear hf h1c
  rcases hbad with he | ⟨rfl, rfl⟩
  · rw [if_neg he]
    go_enter Try.func19, Try.ntmps19
    go_wp2_with fail
    refine Calls.mono HF.out ?_
    rintro r w1 ⟨rfl, hb1⟩
    have HBx : Hid _ := mkb1 w1 #[.int .i64 0, .int .u16 0, .int .u16 0, .int .u64 0, .int .u64 0, .int .u64 0, .slice none 0 0, .bool false, .slice none 0 0] TEn
    have Hb1 : Hid _ := hb1
    clear hb1
    go_wp2_with (first | (refine wpList_store_row rfl TEn _ _ rfl w1.heap.size #[c0, c1, c2, c3, c4, c5, c6, .bool rd, c8] rfl rfl TEn _ HBx.out.a infoEn rfl H1.out ?_))
    go_ret
    exact ⟨rfl, below_row (Hb1.out.trans (HBx.out.bel.mono Hb1.out.size)) Hb1.out.size _⟩
  · rw [if_pos rfl]
    go_enter Try.func19, Try.ntmps19
    go_wp2_with fail
    refine Calls.mono HF.out ?_
    rintro r w1 ⟨rfl, hb1⟩
    have HBx : Hid _ := mkb1 w1 #[.int .i64 0, .int .u16 0, .int .u16 0, .int .u64 0, .int .u64 0, .int .u64 0, .slice none 0 0, .bool false, .slice none 0 0] TEn
    have Hb1 : Hid _ := hb1
    clear hb1
    go_wp2_with (first | (refine wpList_store_row rfl TEn _ _ rfl w1.heap.size #[c0, c1, c2, c3, c4, c5, c6, .bool true, c8] rfl rfl TEn _ HBx.out.a infoEn rfl H1.out ?_; have z7 : ((w1.alloc (.cells #[.int .i64 0, .int .u16 0, .int .u16 0, .int .u64 0, .int .u64 0, .int .u64 0, .slice none 0 0, .bool false, .slice none 0 0] TEn)).setRow w1.heap.size #[c0, c1, c2, c3, c4, c5, c6, .bool true, c8]).cell? ⟨w1.heap.size, 7, none⟩ = some (.bool true) := (blk_at (setRow_heap _ _ _ _ _ _ HBx.out.a) 7).trans rfl))
    go_ret
    exact ⟨rfl, below_row (Hb1.out.trans (HBx.out.bel.mono Hb1.out.size)) Hb1.out.size _⟩
/-- an entry's new value is put into the map -/
theorem RT.putAt {W w3 : World} {e : En} {l : List Nat} {v : Value} (h : RT W F b bm V S) (he : e ∈ S.L) (G : Nat → Prop) (hG : ∀ g, G g → g < W.heap.size ∧ g ≠ b ∧ g ≠ bm) (hv : PV W (fun g => F g ∨ G g) v ⟨e.id, e.rq, true, l⟩)
    (hm : w3.ownsMap Try.prog TIn heldE bm (S.L.length + 1) ((mapI (ids S.L) V).put (kl e.id) (.held v))) (ht : W.mapTurned w3 bm) : RT w3 (fun g => F g ∨ G g) b bm (updV V e.id v) (doneS S e.id l) ∧ KeptIn (fun g => g = bm) W w3 := by
  have hK : KeptIn (fun g => g = bm) W w3 := grown_kept ht.grown rfl
  have hlt : ∀ g, F g ∨ G g → g < W.heap.size := fun g hg => hg.elim (h.lt g) (fun h => (hG g h).1)
  have hnm : ∀ g, F g ∨ G g → ¬ g = bm := fun g hg e => hg.elim (fun h' => h.nm (e ▸ h')) (fun h' => (hG g h').2.2 e)
  refine ⟨⟨fun g hg => Nat.lt_of_lt_of_le (hlt g hg) hK.size, fun hb => hb.elim h.nb (fun h' => (hG b h').2.1 rfl), fun hb => hnm _ hb rfl, ?_, ?_, ?_, doneS_ok h.ok e.id l⟩, hK⟩
  · rw [hK.block b h.ltb h.ne, h.blk]; rfl
  · have := ownsMap_tight hm
    rw [mapI_put_at _ _ _ _ h.ok.rise (ids_mem he), mapI_size] at this
    simp only [doneS, ids_done, List.length_map]
    simpa [ids] using this
  · intro e' he'
    simp only [doneS, List.mem_map] at he'
    obtain ⟨e0, h0, rfl⟩ := he'
    by_cases hid : e0.id = e.id
    · rw [if_pos hid]
      have hee : e0 = e := id_inj h.ok.rise e0 h0 e he hid
      subst hee
      rw [updV_same]
      exact hv.keep hK hlt hnm
    · rw [if_neg hid, updV_other hid]
      exact ((h.pv e0 h0).mono (fun g hg => .inl hg)).keep hK hlt hnm
set_option maxHeartbeats 4000000 in
theorem done_ok (h : RT w F b bm V S) (e : En) (he : e ∈ S.L) (hrd : e.rd = false) (sa : Option Addr) (sc n : Nat) (l : List Nat) (hl : BRow w sa sc l) (HN : Hid (l.length = n)) : Calls Try.prog 19 #[.pointer (some ⟨b, 0, none⟩), .int .i64 e.id, .slice sa n sc] w fun r w' => r = .returned (.int .i64 0) ∧ ∃ F' V', TAct w w' F F' b bm V' (doneS S e.id l) := by
  obtain ⟨da, dc, aa, ac, hv, r1, r2⟩ := (h.pv e he).ex
  have HF : Hid _ := find_yes h e.id (ids_mem he) _ _ _ _ _ _ _ _ _ hv (oneEcl e da aa dc ac)
  have H1 : Hid _ := oneEcl e da aa dc ac
  have H : Hid _ := h
  have R1 : Hid _ := r1
  have hw := h.wf (ids_mem he)
  obtain ⟨n2, hn2⟩ : ∃ n, e.an.length = n := ⟨_, rfl⟩
  obtain ⟨n1, hn1⟩ : ∃ n, e.rq.data.length = n := ⟨_, rfl⟩
  have HN1 : Hid _ := hn1
  simp only [ecl, hn2, hn1, hrd] at H1 HF
  have HBr : Hid _ := hl
  have HE : Hid (e ∈ S.L) := he
  clear h r1 r2 hn2 hn1 hl he hv
  go_enter Try.func19, Try.ntmps19
  go_wp2_with fail
  refine Calls.mono HF.out ?_
  rintro r w1 ⟨rfl, hb1⟩
  have HBx : Hid _ := mkb1 w1 #[.int .i64 0, .int .u16 0, .int .u16 0, .int .u64 0, .int .u64 0, .int .u64 0, .slice none 0 0, .bool false, .slice none 0 0] TEn
  have HB3 : Hid _ := setRow_heap _ w1.heap.size _ #[.int .i64 e.id, .int .u16 e.rq.fl, .int .u16 e.rq.ty, .int .u64 e.rq.ck, .int .u64 e.rq.off, .int .u64 e.rq.len, .slice da n1 dc, .bool false, .slice aa n2 ac] TEn _ HBx.out.a
  have HBl : Hid (Below w.heap.size w ((w1.alloc (.cells #[.int .i64 0, .int .u16 0, .int .u16 0, .int .u64 0, .int .u64 0, .int .u64 0, .slice none 0 0, .bool false, .slice none 0 0] TEn)).setRow w1.heap.size #[.int .i64 e.id, .int .u16 e.rq.fl, .int .u16 e.rq.ty, .int .u64 e.rq.ck, .int .u64 e.rq.off, .int .u64 e.rq.len, .slice da n1 dc, .bool false, .slice aa n2 ac])) := below_row (hb1.trans (HBx.out.bel.mono hb1.size)) hb1.size _
  have hs1 := hb1.size
  clear hb1
  go_wp2_with (first | (refine wpList_store_row rfl TEn _ _ rfl w1.heap.size #[.int .i64 e.id, .int .u16 e.rq.fl, .int .u16 e.rq.ty, .int .u64 e.rq.ck, .int .u64 e.rq.off, .int .u64 e.rq.len, .slice da n1 dc, .bool false, .slice aa n2 ac] rfl rfl TEn _ HBx.out.a infoEn rfl H1.out ?_; generalize ((w1.alloc (.cells #[.int .i64 0, .int .u16 0, .int .u16 0, .int .u64 0, .int .u64 0, .int .u64 0, .slice none 0 0, .bool false, .slice none 0 0] TEn)).setRow w1.heap.size #[.int .i64 e.id, .int .u16 e.rq.fl, .int .u16 e.rq.ty, .int .u64 e.rq.ck, .int .u64 e.rq.off, .int .u64 e.rq.len, .slice da n1 dc, .bool false, .slice aa n2 ac]) = W at *; have z7 : W.cell? ⟨w1.heap.size, 7, none⟩ = some (.bool false) := (blk_at HB3.out 7).trans rfl) | fail)
  obtain ⟨bx, hbx⟩ : ∃ bx, w1.heap.size = bx := ⟨_, rfl⟩
  simp only [hbx] at HB3 hs1 z7 ⊢
  clear hbx HBx
  refine (clone_any sa sc n l W (HBr.out.later HBl.out) HN.out).mono ?_
  rintro r w2 ⟨ao, cap, rfl, ho, hb2⟩
  have hbxW := block_lt HB3.out
  have hq := (hb2.block bx hbxW).trans HB3.out
  have y7 : w2.frozen? ⟨bx, 7, none⟩ = false := blk_free hq 7
  have y8 : w2.frozen? ⟨bx, 8, none⟩ = false := blk_free hq 8
  have x7 : w2.cell? ⟨bx, 7, none⟩ = some (.bool false) := (blk_at hq 7).trans rfl
  have x8 : w2.cell? ⟨bx, 8, none⟩ = some (.slice aa n2 ac) := (blk_at hq 8).trans rfl
  have hq1 : (w2.setCell ⟨bx, 7, none⟩ (.bool true)).heap[bx]? = some (.cells #[.int .i64 e.id, .int .u16 e.rq.fl, .int .u16 e.rq.ty, .int .u64 e.rq.ck, .int .u64 e.rq.off, .int .u64 e.rq.len, .slice da n1 dc, .bool true, .slice aa n2 ac] TEn (0, 0)) := put_box hq 7 _ rfl
  have hq2 : ((w2.setCell ⟨bx, 7, none⟩ (.bool true)).setCell ⟨bx, 8, none⟩ (.slice ao n cap)).heap[bx]? = some (.cells #[.int .i64 e.id, .int .u16 e.rq.fl, .int .u16 e.rq.ty, .int .u64 e.rq.ck, .int .u64 e.rq.off, .int .u64 e.rq.len, .slice da n1 dc, .bool true, .slice ao n cap] TEn (0, 0)) := put_box hq1 8 _ rfl
  have hbB : Below w.heap.size w ((w2.setCell ⟨bx, 7, none⟩ (.bool true)).setCell ⟨bx, 8, none⟩ (.slice ao n cap)) := ((HBl.out.trans (hb2.mono HBl.out.size)).setCell (p := ⟨bx, 7, none⟩) hs1 _).setCell (p := ⟨bx, 8, none⟩) hs1 _
  have HO : Hid (((w2.setCell ⟨bx, 7, none⟩ (.bool true)).setCell ⟨bx, 8, none⟩ (.slice ao n cap)).ownsRow W.heap.size 5 1 (.slice ao n cap) n (l.map bv)) := owns_same ho fun g hg => by
    have := owns_lt ho g hg
    rw [Below.heap_setCell _ _ _ _ (by simp; omega), Below.heap_setCell _ _ _ _ (by simp; omega)]
  have HQ2 : Hid _ := hq2
  have HBB : Hid _ := hbB
  clear ho hb2 hq hq1 hq2 hbB HB3
  go_wp2_with fail
  generalize ((w2.setCell ⟨bx, 7, none⟩ (.bool true)).setCell ⟨bx, 8, none⟩ (.slice ao n cap)) = W2 at *
  have hR2 := H.out.later HBB.out
  have hmd : W2.drew.ownsMap Try.prog TIn heldE bm S.L.length (mapI (ids S.L) V) := ownsMap_block hR2.mp rfl
  have hlen : S.L.length < maxLen := by have h1 := H.out.ok.len; have h2 := H.out.ok.m2; unfold maxLen; omega
  obtain ⟨w3, hmu, hown3, hturn3⟩ := hmd.store keyed Try.underlying74 hlen (keyAt hw) (val := .agg #[.int .i64 e.id, .int .u16 e.rq.fl, .int .u16 e.rq.ty, .int .u64 e.rq.ck, .int .u64 e.rq.off, .int .u64 e.rq.len, .slice da n1 dc, .bool true, .slice ao n cap]) rfl
  have hne : bx ≠ bm := fun e9 => by
    obtain ⟨es, ck, h9, _⟩ := hmd
    rw [← e9] at h9
    have : W2.heap[bx]? = _ := h9
    rw [HQ2.out] at this; cases this
  have hq3 : w3.heap[bx]? = W2.heap[bx]? := hturn3.grown.block bx (block_lt HQ2.out) (fun e9 => by cases e9; exact hne rfl)
  have HPA : Hid (RT w3 (fun g => F g ∨ (W.heap.size ≤ g ∧ g < W2.heap.size)) b bm (updV V e.id (.agg #[.int .i64 e.id, .int .u16 e.rq.fl, .int .u16 e.rq.ty, .int .u64 e.rq.ck, .int .u64 e.rq.off, .int .u64 e.rq.len, .slice da n1 dc, .bool true, .slice ao n cap])) (doneS S e.id l) ∧ KeptIn (fun g => g = bm) W2.drew w3) := by
    have hRd : RT W2.drew F b bm V S := hR2.drewN 1
    have hWl := HBl.out.size
    refine hRd.putAt HE.out (fun g => W.heap.size ≤ g ∧ g < W2.heap.size) (fun g hg => ⟨hg.2, fun e9 => ?_, fun e9 => ?_⟩) ?_ hown3 hturn3
    · have := H.out.ltb; omega
    · have := H.out.ltm; omega
    · have hd := (R1.out.keep (KeptIn.ofBelow (S := fun _ => False) HBB.out) H.out.lt (fun _ _ h => h)).mono (F' := fun g => F g ∨ (W.heap.size ≤ g ∧ g < W2.heap.size)) (fun g hg => .inl hg)
      have hb' := HO.out
      rw [← HN.out] at hb'
      obtain ⟨a9, c9, e9, hr⟩ := FRow.own (F := fun g => F g ∨ (W.heap.size ≤ g ∧ g < W2.heap.size)) hb' HBr.out.lt HBr.out.len (fun g hg => by have := owns_lt hb' g hg; exact .inr ⟨this.2, this.1⟩)
      simp only [Value.slice.injEq] at e9
      obtain ⟨rfl, _, rfl⟩ := e9
      refine ⟨da, dc, ao, cap, ?_, ⟨hd.row.drewN 1, hd.fp⟩, ⟨hr.row.drewN 1, hr.fp⟩⟩
      simp only [ecl, HN1.out, HN.out]
  have c2 : W2.cell? ⟨b, 2, none⟩ = some (.map (some bm)) := hR2.c 2
  have q0 : W2.cell? ⟨bx, 0, none⟩ = some (.int .i64 e.id) := (blk_at HQ2.out 0).trans rfl
  have q1 : W2.cell? ⟨bx, 1, none⟩ = some (.int .u16 e.rq.fl) := (blk_at HQ2.out 1).trans rfl
  have q2 : W2.cell? ⟨bx, 2, none⟩ = some (.int .u16 e.rq.ty) := (blk_at HQ2.out 2).trans rfl
  have q3 : W2.cell? ⟨bx, 3, none⟩ = some (.int .u64 e.rq.ck) := (blk_at HQ2.out 3).trans rfl
  have q4 : W2.cell? ⟨bx, 4, none⟩ = some (.int .u64 e.rq.off) := (blk_at HQ2.out 4).trans rfl
  have q5 : W2.cell? ⟨bx, 5, none⟩ = some (.int .u64 e.rq.len) := (blk_at HQ2.out 5).trans rfl
  have q6 : W2.cell? ⟨bx, 6, none⟩ = some (.slice da n1 dc) := (blk_at HQ2.out 6).trans rfl
  have q7 : W2.cell? ⟨bx, 7, none⟩ = some (.bool true) := (blk_at HQ2.out 7).trans rfl
  have q8 : W2.cell? ⟨bx, 8, none⟩ = some (.slice ao n cap) := (blk_at HQ2.out 8).trans rfl
  have HS3 : Hid (w3.cell? ⟨b, 2, none⟩ = some (.map (some bm)) ∧ w3.cell? ⟨bx, 0, none⟩ = some (.int .i64 e.id) ∧ w3.cell? ⟨bx, 1, none⟩ = some (.int .u16 e.rq.fl) ∧ w3.cell? ⟨bx, 2, none⟩ = some (.int .u16 e.rq.ty) ∧ w3.cell? ⟨bx, 3, none⟩ = some (.int .u64 e.rq.ck) ∧ w3.cell? ⟨bx, 4, none⟩ = some (.int .u64 e.rq.off) ∧ w3.cell? ⟨bx, 5, none⟩ = some (.int .u64 e.rq.len) ∧ w3.cell? ⟨bx, 6, none⟩ = some (.slice da n1 dc) ∧ w3.cell? ⟨bx, 7, none⟩ = some (.bool true) ∧ w3.cell? ⟨bx, 8, none⟩ = some (.slice ao n cap)) :=
    ⟨HPA.out.1.c 2, (cell_block hq3).trans q0, (cell_block hq3).trans q1, (cell_block hq3).trans q2, (cell_block hq3).trans q3, (cell_block hq3).trans q4, (cell_block hq3).trans q5, (cell_block hq3).trans q6, (cell_block hq3).trans q7, (cell_block hq3).trans q8⟩
  have HFin : Hid (∃ F' V', TAct w w3 F F' b bm V' (doneS S e.id l)) := ⟨_, _, HPA.out.1, (KeptIn.ofBelow (S := fun g => g = b ∨ g = bm) (HBB.out.trans (below_drewN W2 1 |>.mono HBB.out.size))).trans (HPA.out.2.mono (T := fun g => g = b ∨ g = bm) (fun g _ e => .inr e)) (fun _ _ hn => hn), fun g hg => hg.imp (fun h => h) (fun h => Nat.le_trans HBl.out.size h.1)⟩
  clear hR2 hmd hown3 hturn3 hq3 HPA HQ2 HBB HO hne z7 x7 x8 y7 y8 hrd
  go_region_held3 (fun w' => w'.cell? ⟨b, 2, none⟩ = some (.map (some bm)) ∧ w'.cell? ⟨bx, 0, none⟩ = some (.int .i64 e.id) ∧ w'.cell? ⟨bx, 1, none⟩ = some (.int .u16 e.rq.fl) ∧ w'.cell? ⟨bx, 2, none⟩ = some (.int .u16 e.rq.ty) ∧ w'.cell? ⟨bx, 3, none⟩ = some (.int .u64 e.rq.ck) ∧ w'.cell? ⟨bx, 4, none⟩ = some (.int .u64 e.rq.off) ∧ w'.cell? ⟨bx, 5, none⟩ = some (.int .u64 e.rq.len) ∧ w'.cell? ⟨bx, 6, none⟩ = some (.slice da n1 dc) ∧ w'.cell? ⟨bx, 7, none⟩ = some (.bool true) ∧ w'.cell? ⟨bx, 8, none⟩ = some (.slice ao n cap)) (first | exact HS3.out | go_keep) (fail)
  go_wp2
  go_ret
  exact ⟨rfl, HFin.out⟩
end
end Go.Proofs.Ytoabigjajnikcaa
