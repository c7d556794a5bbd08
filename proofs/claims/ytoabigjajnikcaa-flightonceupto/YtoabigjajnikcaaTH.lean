import Derived.Test.YtoabigjajnikcaaTF
namespace Go.Proofs.Ytoabigjajnikcaa
open Go.RowKit Go.Maps
attribute [local go_sem] Oper.semAt_some
set_option linter.unusedVariables false
set_option linter.unusedSimpArgs false
set_option maxRecDepth 100000

section
variable {w : World} {F : Nat → Prop} {b bm : Nat} {V : Int → Value} {S : St}
def addS (S : St) (q : Rq) : St := ⟨S.most, S.last + 1, S.L ++ [⟨(S.last : Int) + 1, q, false, []⟩]⟩
theorem ids_add (L : List En) (e : En) : ids (L ++ [e]) = ids L ++ [e.id] := by simp [ids]
theorem addS_ok (h : SOk S) (q : Rq) (hl : S.L.length < S.most) (hb : S.last < 4611686018427387904) : SOk (addS S q) := by
  have e : ids (addS S q).L = ids S.L ++ [(S.last : Int) + 1] := ids_add _ _
  refine ⟨h.m1, h.m2, by simp [addS]; omega, ?_, ?_, ?_, by simp [addS]; omega⟩
  · rw [e, List.pairwise_append]
    refine ⟨h.rise, by simp, fun a ha c hc => ?_⟩
    have := h.top a ha
    simp at hc; omega
  · rw [e]; intro i hi
    rcases List.mem_append.1 hi with hi | hi
    · exact h.pos i hi
    · simp at hi; omega
  · rw [e]; intro i hi
    have hl : ((addS S q).last : Int) = S.last + 1 := by simp [addS]
    rcases List.mem_append.1 hi with hi | hi
    · have := h.top i hi; omega
    · simp at hi; omega
theorem RT.putNew {W w3 : World} {q : Rq} {v : Value} (h : RT W F b bm V S) {W1 : World} (hW : KeptIn (fun g => g = b) W W1) (hW2 : W1.heap[b]? = some (.cells #[.int .i64 S.most, .int .i64 ((S.last : Int) + 1), .map (some bm)] TTb (0, 0))) (G : Nat → Prop) (hG : ∀ g, G g → g < W1.heap.size ∧ g ≠ b ∧ g ≠ bm) (hv : PV W1 G v ⟨(S.last : Int) + 1, q, false, []⟩)
    (hm : w3.ownsMap Try.prog TIn heldE bm (S.L.length + 1) ((mapI (ids S.L) V).put (kl ((S.last : Int) + 1)) (.held v))) (ht : W1.mapTurned w3 bm) (hl : S.L.length < S.most) (hbg : S.last < 4611686018427387904) : RT w3 (fun g => F g ∨ G g) b bm (updV V ((S.last : Int) + 1) v) (addS S q) ∧ KeptIn (fun g => g = bm) W1 w3 := by
  have hK : KeptIn (fun g => g = bm) W1 w3 := grown_kept ht.grown rfl
  have hlt : ∀ g, F g ∨ G g → g < W1.heap.size := fun g hg => hg.elim (fun h' => Nat.lt_of_lt_of_le (h.lt g h') hW.size) (fun h => (hG g h).1)
  have hnm : ∀ g, F g ∨ G g → ¬ g = bm := fun g hg e => hg.elim (fun h' => h.nm (e ▸ h')) (fun h' => (hG g h').2.2 e)
  refine ⟨⟨fun g hg => Nat.lt_of_lt_of_le (hlt g hg) hK.size, fun hb => hb.elim h.nb (fun h' => (hG b h').2.1 rfl), fun hb => hnm _ hb rfl, ?_, ?_, ?_, addS_ok h.ok q hl hbg⟩, hK⟩
  · rw [hK.block b (block_lt hW2) h.ne, hW2]
    simp [addS]
  · have hp := mapI_put_last (ids S.L) V ((S.last : Int) + 1) v (fun i hi => by have := h.ok.top i hi; omega)
    have := ownsMap_tight hm
    rw [hp, mapI_size] at this
    have e : ids (addS S q).L = ids S.L ++ [(S.last : Int) + 1] := ids_add _ _
    rw [e]
    have e2 : (addS S q).L.length = (ids S.L ++ [(S.last : Int) + 1]).length := by simp [addS, ids]
    rw [e2]; exact this
  · intro e' he'
    simp only [addS] at he'
    rcases List.mem_append.1 he' with h0 | h0
    · have hne : e'.id ≠ (S.last : Int) + 1 := by have := h.ok.top e'.id (ids_mem h0); omega
      rw [updV_other hne]
      have hp := (h.pv e' h0).keep hW h.lt (fun g hg e => h.nb (e ▸ hg))
      exact (hp.mono (fun g hg => .inl hg)).keep hK hlt hnm
    · simp only [List.mem_singleton] at h0
      subst h0
      rw [updV_same]
      exact (hv.mono (F' := fun g => F g ∨ G g) (fun g hg => .inr hg)).keep hK hlt hnm
theorem BRow.off {l : List Nat} {da : Option Addr} {dc : Nat} (h : BRow w da dc l) (hl : l ≠ []) (a : Addr) (ha : da = some a) : a.block < w.heap.size ∧ ∀ x y z, w.heap[a.block]? ≠ some (.cells #[.int .i64 x, .int .i64 y, .map z] TTb (0, 0)) := by
  obtain ⟨b', off, e, hc⟩ := h.at_ hl
  rw [ha] at e
  simp only [Option.some.injEq] at e
  subst e
  have hp : 0 < l.length := List.length_pos_iff.2 hl
  have h0 := hc 0 hp
  refine ⟨?_, fun x y z hb => ?_⟩
  · unfold World.cell? at h0
    cases hh : w.heap[b']? with
    | none => simp only [hh] at h0; simp at h0
    | some o => exact (Array.getElem?_eq_some_iff.1 hh).1
  · rw [blk_at hb] at h0
    rcases off with _ | _ | _ | n
    · simp [bv] at h0
    · simp [bv] at h0
    · simp [bv] at h0
    · simp at h0
theorem add_not {po : Option Addr} (h : NoT w po) (c0 c1 c2 c3 c4 c5 : Value) : Calls Try.prog 17 #[.pointer po, .agg #[c0, c1, c2, c3, c4, c5]] w fun r w' => r = .returned (.tuple #[.int .i64 0, .int .i64 1]) ∧ Below w.heap.size w w' := by
  have hu := usable_not (h.later (below1 w (.cells #[c0, c1, c2, c3, c4, c5] 44)))
  go_enter Try.func17, Try.ntmps17
  go_wp2_with (first | (go_at_call 32; refine hu.mono ?_; rintro e w9 ⟨rfl, hw9⟩; rw [hw9]; clear hw9))
  go_ret2
  exact ⟨rfl, below1 w _⟩
set_option maxHeartbeats 1000000 in
theorem add_full (h : RT w F b bm V S) (hfull : S.L.length = S.most) (c0 c1 c2 c3 c4 c5 : Value) : Calls Try.prog 17 #[.pointer (some ⟨b, 0, none⟩), .agg #[c0, c1, c2, c3, c4, c5]] w fun r w' => r = .returned (.tuple #[.int .i64 0, .int .i64 131]) ∧ Below w.heap.size w w' := by
  have hR := h.later (below1 w (.cells #[c0, c1, c2, c3, c4, c5] 44))
  have HU : Hid _ := usable_any hR
  obtain ⟨n, hn⟩ : ∃ n, S.L.length = n := ⟨_, rfl⟩
  have HL : Hid _ := full_any hR n hn n (hfull ▸ hn)
  clear h hR hfull hn
  go_enter Try.func17, Try.ntmps17
  go_wp2_with fail
  refine Calls.mono HU.out ?_
  rintro r w1 ⟨rfl, hw⟩
  rw [hw]; clear hw
  go_wp2_with fail
  refine Calls.mono HL.out ?_
  rintro r w2 ⟨rfl, q, hw⟩
  have HB : Hid (Below w.heap.size w w2) := by
    show Below _ _ _
    rw [hw]; exact (below1 w _).trans ((below_drewN _ q).mono (by rw [size1]; omega))
  clear hw
  have hd : decide (n ≤ n) = true := by simp
  rw [hd]
  go_wp2
  go_ret2
  exact ⟨rfl, HB.out⟩
set_option maxHeartbeats 4000000 in
theorem add_ok (h : RT w F b bm V S) (hl : S.L.length < S.most) (hbg : S.last < 4611686018427387904) (q : Rq) (da : Option Addr) (dc : Nat) (hq : BRow w da dc q.data) : Calls Try.prog 17 #[.pointer (some ⟨b, 0, none⟩), .agg (rcl q da dc).toArray] w fun r w' => r = .returned (.tuple #[.int .i64 ((S.last : Int) + 1), .int .i64 0]) ∧ ∃ F' V', TAct w w' F F' b bm V' (addS S q) := by
  obtain ⟨n1, hn1⟩ : ∃ n, q.data.length = n := ⟨_, rfl⟩
  have HN1 : Hid _ := hn1
  simp only [rcl, hn1]
  clear hn1
  have hR := h.later (below1 w (.cells #[.int .u16 q.fl, .int .u16 q.ty, .int .u64 q.ck, .int .u64 q.off, .int .u64 q.len, .slice da n1 dc] 44))
  have HU : Hid _ := usable_any hR
  have HL : Hid _ := full_any hR S.L.length rfl S.most rfl
  have H : Hid _ := h
  have HQ : Hid _ := hq
  have HBx : Hid _ := mkb1 w #[.int .u16 q.fl, .int .u16 q.ty, .int .u64 q.ck, .int .u64 q.off, .int .u64 q.len, .slice da n1 dc] 44
  obtain ⟨la, hla⟩ : ∃ la, S.last = la := ⟨_, rfl⟩
  have HLa : Hid _ := hla
  rw [hla] at hbg ⊢
  have hd : decide (S.most ≤ S.L.length) = false := by simp; omega
  have hwr : IntKind.i64.wrap ((la : Int) + 1) = (la : Int) + 1 := by rw [IntKind.wrap_i64]; omega
  have Hl : Hid _ := hl
  clear h hq hR hla hl
  go_enter Try.func17, Try.ntmps17
  go_wp2_with fail
  refine Calls.mono HU.out ?_
  rintro r w1 ⟨rfl, hw⟩
  rw [hw]; clear hw HU
  go_wp2_with fail
  refine Calls.mono HL.out ?_
  rintro r w2 ⟨rfl, qn, hw⟩
  rw [hd]
  have HB : Hid _ := HBx.out.later (W' := w2) (by rw [hw]; exact below_drewN _ qn)
  clear hw hd HL HBx w1
  have hR2 := H.out.later HB.out.bel
  have c1 : w2.cell? ⟨b, 1, none⟩ = some (.int .i64 (la : Int)) := by rw [← HLa.out]; exact hR2.c 1
  have f1 := hR2.fz 1
  clear hR2
  go_wp2_with fail
  have hR2 := H.out.later HB.out.bel
  have hq3 := put_box hR2.blk 1 (.int .i64 ((la : Int) + 1)) (cs' := #[.int .i64 S.most, .int .i64 ((la : Int) + 1), .map (some bm)]) rfl
  have hk3 := keptIn_set w2 b 1 (.int .i64 ((la : Int) + 1))
  have hbw : b < w.heap.size := H.out.ltb
  have hbmw : bm < w.heap.size := H.out.ltm
  have hbx3 : (w2.setCell ⟨b, 1, none⟩ (.int .i64 ((la : Int) + 1))).heap[w.heap.size]? = _ := (hk3.block w.heap.size (block_lt HB.out.a) (by omega)).trans HB.out.a
  have hm3 : (w2.setCell ⟨b, 1, none⟩ (.int .i64 ((la : Int) + 1))).ownsMap Try.prog TIn heldE bm S.L.length (mapI (ids S.L) V) := ownsMap_block hR2.mp (hk3.block bm hR2.ltm (fun e => hR2.ne e.symm))
  have hsz3 : w2.heap.size ≤ (w2.setCell ⟨b, 1, none⟩ (.int .i64 ((la : Int) + 1))).heap.size := hk3.size
  generalize w2.setCell ⟨b, 1, none⟩ (.int .i64 ((la : Int) + 1)) = W3 at *
  have HP : Hid (PV W3.drew (fun g => g < w.heap.size ∧ g ≠ b) (.agg #[.int .i64 ((la : Int) + 1), .int .u16 q.fl, .int .u16 q.ty, .int .u64 q.ck, .int .u64 q.off, .int .u64 q.len, .slice da n1 dc, .bool false, .slice none 0 0]) ⟨(la : Int) + 1, q, false, []⟩) := by
    have hr : FRow w (fun g => g < w.heap.size ∧ g ≠ b) da dc q.data := ⟨HQ.out, fun hl a ha => ⟨(HQ.out.off hl a ha).1, fun e => (HQ.out.off hl a ha).2 _ _ _ (e ▸ H.out.blk)⟩⟩
    have hkk : KeptIn (fun g => g = b) w W3 := (KeptIn.ofBelow (S := fun g => g = b) HB.out.bel).trans hk3 (fun _ _ hn => hn)
    have hr3 := hr.keep hkk (fun g hg => hg.1) (fun g hg => hg.2)
    refine ⟨da, dc, none, 0, ?_, ⟨hr3.row.drewN 1, hr3.fp⟩, FRow.nil _ _⟩
    simp [ecl, HN1.out]
  have c1' : W3.cell? ⟨b, 1, none⟩ = some (.int .i64 ((la : Int) + 1)) := (blk_at hq3 1).trans rfl
  have c2' : W3.cell? ⟨b, 2, none⟩ = some (.map (some bm)) := (blk_at hq3 2).trans rfl
  have q0 : W3.cell? ⟨w.heap.size, 0, none⟩ = some (.int .u16 q.fl) := (blk_at hbx3 0).trans rfl
  have q1 : W3.cell? ⟨w.heap.size, 1, none⟩ = some (.int .u16 q.ty) := (blk_at hbx3 1).trans rfl
  have q2 : W3.cell? ⟨w.heap.size, 2, none⟩ = some (.int .u64 q.ck) := (blk_at hbx3 2).trans rfl
  have q3 : W3.cell? ⟨w.heap.size, 3, none⟩ = some (.int .u64 q.off) := (blk_at hbx3 3).trans rfl
  have q4 : W3.cell? ⟨w.heap.size, 4, none⟩ = some (.int .u64 q.len) := (blk_at hbx3 4).trans rfl
  have q5 : W3.cell? ⟨w.heap.size, 5, none⟩ = some (.slice da n1 dc) := (blk_at hbx3 5).trans rfl
  have hw : (Lit.int .i64 ((la : Int) + 1)).wf = true := by
    simp only [Lit.wf, Bool.and_eq_true, decide_eq_true_eq]
    constructor
    · show (-9223372036854775808 : Int) ≤ _; omega
    · show _ ≤ (9223372036854775807 : Int); omega
  have hlen : S.L.length < maxLen := by have h1 := H.out.ok.len; have h2 := H.out.ok.m2; unfold maxLen; omega
  have HC : Hid (Calls Try.prog 34 #[.agg #[.int .i64 ((la : Int) + 1), .int .u16 q.fl, .int .u16 q.ty, .int .u64 q.ck, .int .u64 q.off, .int .u64 q.len, .slice da n1 dc, .bool false, .slice none 0 0]] W3.drew fun r w4 => ∃ v, r = .returned v ∧ ∃ w5, (Instr.mapUpdate TMp (.map (some bm)) (.int .i64 ((la : Int) + 1)) v).run Try.prog w4 = .ok () w5 ∧
      (w4.cell? ⟨b, 1, none⟩ = some (.int .i64 ((la : Int) + 1)) ∧ w4.cell? ⟨b, 2, none⟩ = some (.map (some bm)) ∧ w4.cell? ⟨w.heap.size, 0, none⟩ = some (.int .u16 q.fl) ∧ w4.cell? ⟨w.heap.size, 1, none⟩ = some (.int .u16 q.ty) ∧ w4.cell? ⟨w.heap.size, 2, none⟩ = some (.int .u64 q.ck) ∧ w4.cell? ⟨w.heap.size, 3, none⟩ = some (.int .u64 q.off) ∧ w4.cell? ⟨w.heap.size, 4, none⟩ = some (.int .u64 q.len) ∧ w4.cell? ⟨w.heap.size, 5, none⟩ = some (.slice da n1 dc)) ∧
      (w5.cell? ⟨b, 1, none⟩ = some (.int .i64 ((la : Int) + 1)) ∧ w5.cell? ⟨b, 2, none⟩ = some (.map (some bm)) ∧ w5.cell? ⟨w.heap.size, 0, none⟩ = some (.int .u16 q.fl) ∧ w5.cell? ⟨w.heap.size, 1, none⟩ = some (.int .u16 q.ty) ∧ w5.cell? ⟨w.heap.size, 2, none⟩ = some (.int .u64 q.ck) ∧ w5.cell? ⟨w.heap.size, 3, none⟩ = some (.int .u64 q.off) ∧ w5.cell? ⟨w.heap.size, 4, none⟩ = some (.int .u64 q.len) ∧ w5.cell? ⟨w.heap.size, 5, none⟩ = some (.slice da n1 dc)) ∧ ∃ F' V', TAct w w5 F F' b bm V' (addS S q)) := by
    refine (copied_any HP.out).mono ?_
    rintro r w4 ⟨d1, e1, a1, f1, rfl, hov, hbl⟩
    have hbl' : Below W3.heap.size W3.drew w4 := hbl
    have h34 : ∀ g, g < W3.heap.size → w4.heap[g]? = W3.heap[g]? := fun g hg => hbl'.block g hg
    have hb4 := (h34 b (block_lt hq3)).trans hq3
    have hx4 := (h34 w.heap.size (block_lt hbx3)).trans hbx3
    have hm4 : w4.ownsMap Try.prog TIn heldE bm S.L.length (mapI (ids S.L) V) := ownsMap_block hm3 (h34 bm hm3.lt)
    obtain ⟨w5, hmu, hown5, hturn5⟩ := hm4.store keyed Try.underlying74 hlen (keyAt hw) (val := .agg (ecl ⟨(la : Int) + 1, q, false, []⟩ d1 e1 a1 f1).toArray) rfl
    have hne1 : w.heap.size ≠ bm := by omega
    have hx5 : w5.heap[w.heap.size]? = w4.heap[w.heap.size]? := hturn5.grown.block _ (block_lt hx4) (fun e => by cases e; exact hne1 rfl)
    have hb5 : w5.heap[b]? = w4.heap[b]? := hturn5.grown.block _ (block_lt hb4) (fun e => by cases e; exact hR2.ne rfl)
    have hA := hR2.putNew (q := q) (W1 := w4) (w3 := w5) (v := .agg (ecl ⟨(la : Int) + 1, q, false, []⟩ d1 e1 a1 f1).toArray) (hk3.trans (KeptIn.ofBelow (S := fun g => g = b) (show Below W3.heap.size W3 w4 from ⟨hbl'.os, hbl'.tape, hbl'.output, hbl'.size, hbl'.block⟩)) (fun _ _ hn => hn)) (by rw [HLa.out]; exact hb4) (fun g => W3.heap.size ≤ g ∧ g < w4.heap.size) (fun g hg => ⟨hg.2, by have := block_lt hq3; omega, by have := hm3.lt; omega⟩) (by rw [HLa.out]; exact hov.pv (fun g h1 h2 => ⟨h1, h2⟩)) (by rw [HLa.out]; exact hown5) hturn5 Hl.out (by rw [HLa.out]; exact hbg)
    refine ⟨_, rfl, w5, hmu, ⟨(blk_at hb4 1).trans rfl, (blk_at hb4 2).trans rfl, (blk_at hx4 0).trans rfl, (blk_at hx4 1).trans rfl, (blk_at hx4 2).trans rfl, (blk_at hx4 3).trans rfl, (blk_at hx4 4).trans rfl, (blk_at hx4 5).trans rfl⟩, ⟨(cell_block hb5).trans ((blk_at hb4 1).trans rfl), (cell_block hb5).trans ((blk_at hb4 2).trans rfl), (cell_block hx5).trans ((blk_at hx4 0).trans rfl), (cell_block hx5).trans ((blk_at hx4 1).trans rfl), (cell_block hx5).trans ((blk_at hx4 2).trans rfl), (cell_block hx5).trans ((blk_at hx4 3).trans rfl), (cell_block hx5).trans ((blk_at hx4 4).trans rfl), (cell_block hx5).trans ((blk_at hx4 5).trans rfl)⟩, _, _, hA.1, ?_, fun g hg => hg.imp (fun h => h) (fun h => by have := HB.out.bel.size; omega)⟩
    exact ((KeptIn.ofBelow (S := fun g => g = b ∨ g = bm) HB.out.bel).trans (hk3.mono (T := fun g => g = b ∨ g = bm) (fun g _ e => .inl e)) (fun _ _ hn => hn)).trans ((KeptIn.ofBelow (S := fun g => g = b ∨ g = bm) (show Below W3.heap.size W3 w4 from ⟨hbl'.os, hbl'.tape, hbl'.output, hbl'.size, hbl'.block⟩)).trans (hA.2.mono (T := fun g => g = b ∨ g = bm) (fun g _ e => .inr e)) (fun _ _ hn => hn)) (fun _ _ hn => hn)
  clear hR2 hq3 hk3 hbx3 hm3 HP c1 f1 hwr HB
  go_region_held3 (fun w' => w'.cell? ⟨b, 1, none⟩ = some (.int .i64 ((la : Int) + 1)) ∧ w'.cell? ⟨b, 2, none⟩ = some (.map (some bm)) ∧ w'.cell? ⟨w.heap.size, 0, none⟩ = some (.int .u16 q.fl) ∧ w'.cell? ⟨w.heap.size, 1, none⟩ = some (.int .u16 q.ty) ∧ w'.cell? ⟨w.heap.size, 2, none⟩ = some (.int .u64 q.ck) ∧ w'.cell? ⟨w.heap.size, 3, none⟩ = some (.int .u64 q.off) ∧ w'.cell? ⟨w.heap.size, 4, none⟩ = some (.int .u64 q.len) ∧ w'.cell? ⟨w.heap.size, 5, none⟩ = some (.slice da n1 dc)) (first | exact HS5.out | exact HS4.out | go_keep) (first | (go_at_call 34; refine Calls.mono HC.out ?_; rintro r w4 ⟨v, rfl, w5, hmu, hs4, hs5, hfin⟩; have HS4 : Hid _ := hs4; have HS5 : Hid _ := hs5; have HFin : Hid _ := hfin; clear hs4 hfin) | fail)
  go_wp2
  go_ret2
  exact ⟨rfl, HFin.out⟩
end
end Go.Proofs.Ytoabigjajnikcaa
