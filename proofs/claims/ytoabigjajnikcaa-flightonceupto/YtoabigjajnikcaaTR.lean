import Derived.Test.YtoabigjajnikcaaTO
namespace Go.Proofs.Ytoabigjajnikcaa
open Go.RowKit Go.Maps
attribute [local go_sem] Oper.semAt_some
set_option linter.unusedVariables false
set_option linter.unusedSimpArgs false
set_option maxRecDepth 100000

theorem split_at : ∀ (L : List En) (k : Nat) (e : En), L[k]? = some e → ∃ A B, L = A ++ e :: B ∧ A.length = k
  | [], k, e, h => by simp at h
  | x :: L, 0, e, h => by simp at h; subst h; exact ⟨[], L, rfl, rfl⟩
  | x :: L, k + 1, e, h => by
    obtain ⟨A, B, hL, hA⟩ := split_at L k e (by simpa using h)
    exact ⟨x :: A, B, by rw [hL]; rfl, by simp [hA]⟩
theorem split_ids {A B : List En} {e : En} (h : (ids (A ++ e :: B)).Pairwise (· < ·)) : (∀ x ∈ A, x.id ≠ e.id) ∧ (∀ x ∈ B, x.id ≠ e.id) := by
  unfold ids at h
  rw [List.map_append, List.map_cons, List.pairwise_append] at h
  obtain ⟨_, h2, h3⟩ := h
  refine ⟨fun x hx => ?_, fun x hx => ?_⟩
  · have := h3 x.id (List.mem_map.2 ⟨x, hx, rfl⟩) e.id (by simp)
    omega
  · have := (List.pairwise_cons.1 h2).1 x.id (List.mem_map.2 ⟨x, hx, rfl⟩)
    have h9 : e.id < x.id := this
    omega
theorem split_done {A B : List En} {e e' : En} (hA : ∀ x ∈ A, x.id ≠ e.id) (hB : ∀ x ∈ B, x.id ≠ e.id) (f : En → En) (hf : f e = e') (hn : ∀ x, x.id ≠ e.id → f x = x) : (A ++ e :: B).map f = A ++ e' :: B := by
  rw [List.map_append, List.map_cons, hf]
  congr 1
  · exact (List.map_congr_left fun x hx => hn x (hA x hx)).trans (List.map_id A)
  · congr 1
    exact (List.map_congr_left fun x hx => hn x (hB x hx)).trans (List.map_id B)
theorem split_take {A B : List En} {e : En} (hA : ∀ x ∈ A, x.id ≠ e.id) (hB : ∀ x ∈ B, x.id ≠ e.id) : (A ++ e :: B).filter (fun x => decide (x.id ≠ e.id)) = A ++ B := by
  rw [List.filter_append, List.filter_cons]
  simp only [ne_eq, not_true, decide_false, Bool.false_eq_true, if_false]
  congr 1
  · exact List.filter_eq_self.2 fun x hx => by simpa using hA x hx
  · exact List.filter_eq_self.2 fun x hx => by simpa using hB x hx
theorem flat_len (f : En → List Value) : ∀ (L : List En), (∀ e ∈ L, (f e).length = 9) → (L.flatMap f).length = L.length * 9
  | [], _ => rfl
  | x :: L, h => by rw [List.flatMap_cons, List.length_append, h x (by simp), flat_len f L (fun e he => h e (by simp [he])), List.length_cons, Nat.add_mul]; omega
theorem flat_congr {L : List En} {f f' : En → List Value} (h : ∀ e ∈ L, f e = f' e) : L.flatMap f = L.flatMap f' := by
  rw [List.flatMap_def, List.flatMap_def, List.map_congr_left h]
section
variable {w : World} {G : Nat → Prop} {p : Nat} {v : Value} {V : Int → Value} {S : St}
set_option maxHeartbeats 1000000 in
theorem rdone_no (h : RR w G p v V S) (id : Int) (hid : id ∉ ids S.L) (vA : Value) : Calls Try.prog 28 #[.pointer (some ⟨p, 0, none⟩), .int .i64 id, vA] w fun r w' => r = .returned (.int .i64 132) ∧ w' = w := by
  have hf := rfind_no h id hid
  clear h
  go_enter Try.func28, Try.ntmps28
  go_wp2_with (first | (go_at_call 45; refine hf.mono ?_; rintro e w9 ⟨rfl, hw9⟩; rw [hw9]; clear hw9))
  go_ret
  exact ⟨rfl, rfl⟩
theorem rtake_no (h : RR w G p v V S) (id : Int) (hid : id ∉ ids S.L) : Calls Try.prog 29 #[.pointer (some ⟨p, 0, none⟩), .int .i64 id] w fun r w' => r = .returned (.tuple #[.slice none 0 0, .int .i64 132]) ∧ w' = w := by
  have hf := rfind_no h id hid
  clear h
  go_enter Try.func29, Try.ntmps29
  go_wp2_with (first | (go_at_call 45; refine hf.mono ?_; rintro e w9 ⟨rfl, hw9⟩; rw [hw9]; clear hw9))
  go_ret2
  exact ⟨rfl, rfl⟩
set_option maxHeartbeats 1000000 in
theorem rdone_rdy (h : RR w G p v V S) (k : Nat) (e : En) (he : S.L[k]? = some e) (hrd : e.rd = true) (vA : Value) : Calls Try.prog 28 #[.pointer (some ⟨p, 0, none⟩), .int .i64 e.id, vA] w fun r w' => r = .returned (.int .i64 133) ∧ w' = w := by
  have hf := rfind_yes h k e he
  have hlen : S.L.length ≤ 64 := Nat.le_trans h.ok.len h.ok.m2
  have hk := (List.getElem?_eq_some_iff.1 he).1
  obtain ⟨g, cap, da, dc, aa, ac, hv, hcap1, hcap2, hr, _⟩ := h.cells k e he
  obtain ⟨n, hn⟩ : ∃ n, S.L.length = n := ⟨_, rfl⟩
  have hc2 : w.cell? ⟨p, 2, none⟩ = some (.slice (some ⟨g, 0, none⟩) n cap) := (h.c 2).trans (by rw [hv, hn]; rfl)
  have h7 : w.cell? ⟨g, k * 9 + 7, none⟩ = some (.bool true) := by rw [← hrd]; exact hr 7 _ rfl
  rw [hn] at hk
  have hkz : (k : Int) < (n : Int) := by omega
  have hk0 : ¬ (k : Int) < 0 := by omega
  clear h hr hv hn
  go_enter Try.func28, Try.ntmps28
  go_wp2_with (first | (go_at_call 45; refine hf.mono ?_; rintro e w9 ⟨rfl, hw9⟩; rw [hw9]; clear hw9))
  go_ret
  exact ⟨rfl, rfl⟩
set_option maxHeartbeats 1000000 in
theorem rtake_pend (h : RR w G p v V S) (k : Nat) (e : En) (he : S.L[k]? = some e) (hrd : e.rd = false) : Calls Try.prog 29 #[.pointer (some ⟨p, 0, none⟩), .int .i64 e.id] w fun r w' => r = .returned (.tuple #[.slice none 0 0, .int .i64 133]) ∧ w' = w := by
  have hf := rfind_yes h k e he
  have hlen : S.L.length ≤ 64 := Nat.le_trans h.ok.len h.ok.m2
  have hk := (List.getElem?_eq_some_iff.1 he).1
  obtain ⟨g, cap, da, dc, aa, ac, hv, hcap1, hcap2, hr, _⟩ := h.cells k e he
  obtain ⟨n, hn⟩ : ∃ n, S.L.length = n := ⟨_, rfl⟩
  have hc2 : w.cell? ⟨p, 2, none⟩ = some (.slice (some ⟨g, 0, none⟩) n cap) := (h.c 2).trans (by rw [hv, hn]; rfl)
  have h7 : w.cell? ⟨g, k * 9 + 7, none⟩ = some (.bool false) := by rw [← hrd]; exact hr 7 _ rfl
  rw [hn] at hk
  have hkz : (k : Int) < (n : Int) := by omega
  have hk0 : ¬ (k : Int) < 0 := by omega
  clear h hr hv hn
  go_enter Try.func29, Try.ntmps29
  go_wp2_with (first | (go_at_call 45; refine hf.mono ?_; rintro e w9 ⟨rfl, hw9⟩; rw [hw9]; clear hw9))
  go_ret2
  exact ⟨rfl, rfl⟩
theorem RR.doneAt (h : RR w G p v V S) {k g n cap : Nat} {e : En} (he : S.L[k]? = some e) (hv : v = .slice (some ⟨g, 0, none⟩) n cap) {da aa ao : Option Addr} {dc ac cp : Nat} (hVe : V e.id = .agg (ecl e da dc aa ac).toArray) (r1 : FRow w G da dc e.rq.data) {w2 : World} {l : List Nat} (hlt : ∀ x ∈ l, x < 256) (hlen : l.length ≤ 140737488351232)
    (hB2 : Below (w.setCell ⟨g, k * 9 + 7, none⟩ (.bool true)).heap.size (w.setCell ⟨g, k * 9 + 7, none⟩ (.bool true)) w2) (ho : w2.ownsRow w.heap.size 5 1 (.slice ao l.length cp) l.length (l.map bv)) :
    RAct w (w2.setCell ⟨g, k * 9 + 8, none⟩ (.slice ao l.length cp)) G (fun x => G x ∨ (w.heap.size ≤ x ∧ x < w2.heap.size)) p v v (updV V e.id (.agg (ecl ⟨e.id, e.rq, true, l⟩ da dc ao cp).toArray)) (doneS S e.id l) := by
  have hn : n = S.L.length := by
    obtain ⟨ao', cap', e9⟩ := owns_form9 h.row
    rw [hv] at e9; simp only [Value.slice.injEq] at e9; exact e9.2.1
  subst hn
  have hrow := h.row
  rw [hv] at hrow
  have hgl := (row_lt hrow g rfl).1
  have hgp : g ≠ p := fun e9 => h.ne (by rw [hv, ← e9]; rfl)
  have hgG : ¬ G g := h.nv g (by rw [hv]; rfl)
  obtain ⟨st7, _⟩ := hrow.stored (k * 9 + 7) (.bool true)
  have hs1 : (w.setCell ⟨g, k * 9 + 7, none⟩ (.bool true)).heap.size = w.heap.size := by simp
  have hs2 := hB2.size
  rw [hs1] at hs2 hB2
  have st2 := row_same st7 (w' := w2) (fun x hx => by simp [Value.ownBlock] at hx; subst hx; exact hB2.block _ hgl)
  obtain ⟨st8, _⟩ := st2.stored (k * 9 + 8) (.slice ao l.length cp)
  have hk1 := keptIn_set w g (k * 9 + 7) (.bool true)
  have hk3 := keptIn_set w2 g (k * 9 + 8) (.slice ao l.length cp)
  have hK2 : KeptIn (fun x => x = g) w w2 := hk1.trans (KeptIn.ofBelow (S := fun x => x = g) (by rw [hs1]; exact hB2)) (fun _ _ hn => hn)
  have hK3 : KeptIn (fun x => x = g) w (w2.setCell ⟨g, k * 9 + 8, none⟩ (.slice ao l.length cp)) := hK2.trans hk3 (fun _ _ hn => hn)
  obtain ⟨A, B, hL, hAk⟩ := split_at S.L k e he
  obtain ⟨hA, hB⟩ := split_ids (by rw [← hL]; exact h.ok.rise)
  have hD : (doneS S e.id l).L = A ++ ⟨e.id, e.rq, true, l⟩ :: B := by
    simp only [doneS, hL]
    exact split_done hA hB _ (by simp) (fun x hx => by simp [hx])
  refine ⟨⟨fun x hx => ?_, fun hx => ?_, fun x hx hG => ?_, ?_, ?_, ?_, doneS_ok h.ok e.id l⟩, hK3.mono (fun x _ e9 => .inr (by rw [e9, hv]; rfl)), fun x hx => ?_⟩
  · have := hk3.size
    rcases hx with hx | hx
    · have := h.lt x hx; omega
    · omega
  · rcases hx with hx | hx
    · exact h.np hx
    · have := h.ltp; omega
  · rw [hv] at hx
    simp [Value.ownBlock] at hx
    subst hx
    rcases hG with hG | hG
    · exact hgG hG
    · omega
  · rw [hK3.block p h.ltp (fun e9 => hgp e9.symm), h.blk]; rfl
  · have hl9 : ∀ x ∈ S.L, (vcl (V x.id)).length = 9 := fun x hx => vcl_len (h.pv x hx)
    have e1 : S.L.flatMap (fun e => vcl (V e.id)) = A.flatMap (fun e => vcl (V e.id)) ++ (ecl e da dc aa ac ++ B.flatMap (fun e => vcl (V e.id))) := by
      rw [hL, List.flatMap_append, List.flatMap_cons, hVe]; rfl
    have e2 : (doneS S e.id l).L.flatMap (fun x => vcl (updV V e.id (.agg (ecl ⟨e.id, e.rq, true, l⟩ da dc ao cp).toArray) x.id)) = A.flatMap (fun e => vcl (V e.id)) ++ (ecl ⟨e.id, e.rq, true, l⟩ da dc ao cp ++ B.flatMap (fun e => vcl (V e.id))) := by
      rw [hD, List.flatMap_append, List.flatMap_cons, flat_congr (L := A) (fun x hx => by rw [updV_other (hA x hx)]), flat_congr (L := B) (fun x hx => by rw [updV_other (hB x hx)]), updV_same]; rfl
    have hla : (A.flatMap (fun e => vcl (V e.id))).length = k * 9 := by rw [flat_len _ A (fun x hx => hl9 x (by rw [hL]; simp [hx])), hAk]
    have e3 : ((S.L.flatMap fun e => vcl (V e.id)).set (k * 9 + 7) (.bool true)).set (k * 9 + 8) (.slice ao l.length cp) = (doneS S e.id l).L.flatMap (fun x => vcl (updV V e.id (.agg (ecl ⟨e.id, e.rq, true, l⟩ da dc ao cp).toArray) x.id)) := by
      rw [e1, e2, List.set_append_right _ _ (by omega), List.set_append_right _ _ (by omega), hla]
      congr 1
      rw [show k * 9 + 7 - k * 9 = 7 by omega, show k * 9 + 8 - k * 9 = 8 by omega]
      rfl
    rw [← e3, hv]
    have e4 : (doneS S e.id l).L.length = S.L.length := by simp [doneS]
    rw [e4]; exact st8
  · intro x hx
    rw [hD] at hx
    have hold : ∀ y ∈ S.L, y.id ≠ e.id → PV (w2.setCell ⟨g, k * 9 + 8, none⟩ (.slice ao l.length cp)) (fun x => G x ∨ (w.heap.size ≤ x ∧ x < w2.heap.size)) (updV V e.id (.agg (ecl ⟨e.id, e.rq, true, l⟩ da dc ao cp).toArray) y.id) y := fun y hy hne => by
      rw [updV_other hne]
      exact ((h.pv y hy).keep hK3 h.lt (fun z hz e9 => hgG (e9 ▸ hz))).mono (fun z hz => .inl hz)
    rcases List.mem_append.1 hx with hx | hx
    · exact hold x (by rw [hL]; simp [hx]) (hA x hx)
    · rcases List.mem_cons.1 hx with rfl | hx
      · rw [updV_same]
        refine ⟨da, dc, ao, cp, rfl, (r1.keep hK3 h.lt (fun z hz e9 => hgG (e9 ▸ hz))).mono (fun z hz => .inl hz), ?_⟩
        obtain ⟨a9, c9, e9, hr⟩ := FRow.own (F := fun x => w.heap.size ≤ x ∧ x < w2.heap.size) ho hlt hlen (fun z hz => by have := owns_lt ho z hz; exact ⟨this.2, this.1⟩)
        simp only [Value.slice.injEq] at e9
        obtain ⟨rfl, _, rfl⟩ := e9
        exact (hr.keep hk3 (fun z hz => hz.2) (fun z hz e9 => by omega)).mono (fun z hz => .inr hz)
      · exact hold x (by rw [hL]; simp [hx]) (hB x hx)
  · rcases hx with e9 | e9 | e9
    · exact .inl (.inl e9)
    · exact .inl (.inr (.inl e9))
    · rcases e9 with e9 | e9
      · exact .inl (.inr (.inr e9))
      · right; exact e9.1
set_option maxHeartbeats 4000000 in
theorem rdone_ok (h : RR w G p v V S) (k : Nat) (e : En) (he : S.L[k]? = some e) (hrd : e.rd = false) (sa : Option Addr) (sc n1 : Nat) (l : List Nat) (hl : BRow w sa sc l) (hln : ∀ a, sa = some a → l ≠ [] → v.ownBlock ≠ some a.block) (HN1 : Hid (l.length = n1)) : Calls Try.prog 28 #[.pointer (some ⟨p, 0, none⟩), .int .i64 e.id, .slice sa n1 sc] w fun r w' => r = .returned (.int .i64 0) ∧ ∃ G' V', RAct w w' G G' p v v V' (doneS S e.id l) := by
  have HF : Hid _ := rfind_yes h k e he
  have hlen : S.L.length ≤ 64 := Nat.le_trans h.ok.len h.ok.m2
  have hk := (List.getElem?_eq_some_iff.1 he).1
  obtain ⟨g, cap, da, dc, aa, ac, hv, hcap1, hcap2, hr, r1, r2, hVe, cur, hg, hcs⟩ := h.cells k e he
  obtain ⟨n, hn⟩ : ∃ n, S.L.length = n := ⟨_, rfl⟩
  have hc2 : w.cell? ⟨p, 2, none⟩ = some (.slice (some ⟨g, 0, none⟩) n cap) := (h.c 2).trans (by rw [hv, hn]; rfl)
  have h7 : w.cell? ⟨g, k * 9 + 7, none⟩ = some (.bool false) := by rw [← hrd]; exact hr 7 _ rfl
  have f7 : w.frozen? ⟨g, k * 9 + 7, none⟩ = false := blk_free hg _
  have hkS : S.L.length = n := hn
  rw [hn] at hk
  have hkz : (k : Int) < (n : Int) := by omega
  have hk0 : ¬ (k : Int) < 0 := by omega
  have hgp : g ≠ p := fun e9 => h.ne (by rw [hv, ← e9]; rfl)
  have HH : Hid _ := h
  have HBr : Hid _ := hl
  clear h hl hn
  go_enter Try.func28, Try.ntmps28
  go_wp2_with fail
  refine Calls.mono HF.out ?_
  rintro r w9 ⟨rfl, hw⟩
  rw [hw]; clear hw w9 HF
  go_wp2_with fail
  have hk1 := keptIn_set w g (k * 9 + 7) (.bool true)
  have HBr1 : Hid (BRow (w.setCell ⟨g, k * 9 + 7, none⟩ (.bool true)).drew sa sc l) := by
    have hfr : FRow w (fun x => x < w.heap.size ∧ x ≠ g) sa sc l := ⟨HBr.out, fun hl a ha => ⟨(HBr.out.off hl a ha).1, fun e9 => hln a ha hl (by rw [hv, e9]; rfl)⟩⟩
    exact (hfr.keep hk1 (fun x hx => hx.1) (fun x hx => hx.2)).row.drewN 1
  have hgw := block_lt hg
  have hpw := HH.out.ltp
  have c2' : (w.setCell ⟨g, k * 9 + 7, none⟩ (.bool true)).cell? ⟨p, 2, none⟩ = some (.slice (some ⟨g, 0, none⟩) n cap) := (cell_block (hk1.block p hpw (fun e9 => hgp e9.symm))).trans hc2
  have hq1 : (w.setCell ⟨g, k * 9 + 7, none⟩ (.bool true)).heap[g]? = some (.cells (cur.setIfInBounds (k * 9 + 7) (.bool true)) TEn (0, 0)) := put_box hg _ _ rfl
  have h8 : (w.setCell ⟨g, k * 9 + 7, none⟩ (.bool true)).cell? ⟨g, k * 9 + 8, none⟩ = some (.slice aa e.an.length ac) := by
    rw [blk_at hq1]
    have h9 : w.cell? ⟨g, k * 9 + 8, none⟩ = some (.slice aa e.an.length ac) := hr 8 _ rfl
    rw [blk_at hg] at h9
    rw [Array.getElem?_setIfInBounds_ne (by omega)]; exact h9
  have HFin : Hid (∀ w2 ao cp, Below (w.setCell ⟨g, k * 9 + 7, none⟩ (.bool true)).heap.size (w.setCell ⟨g, k * 9 + 7, none⟩ (.bool true)) w2 → w2.ownsRow w.heap.size 5 1 (.slice ao n1 cp) n1 (l.map bv) → ∃ G' V', RAct w (w2.setCell ⟨g, k * 9 + 8, none⟩ (.slice ao n1 cp)) G G' p v v V' (doneS S e.id l)) := fun w2 ao cp hb ho => by
    have := HH.out.doneAt he hv hVe r1 (l := l) HBr.out.lt HBr.out.len hb (by rw [HN1.out]; exact ho)
    rw [HN1.out] at this
    exact ⟨_, _, this⟩
  have hsz1 : (w.setCell ⟨g, k * 9 + 7, none⟩ (.bool true)).heap.size = w.heap.size := by simp
  generalize w.setCell ⟨g, k * 9 + 7, none⟩ (.bool true) = W1 at *
  have HC : Hid (Calls Try.prog 20 #[.slice sa n1 sc] W1.drew fun r w2 => ∃ ao cp, r = .returned (.slice ao n1 cp) ∧ w2.cell? ⟨p, 2, none⟩ = some (.slice (some ⟨g, 0, none⟩) n cap) ∧ w2.cell? ⟨g, k * 9 + 8, none⟩ = some (.slice aa e.an.length ac) ∧ w2.frozen? ⟨g, k * 9 + 8, none⟩ = false ∧ (w2.setCell ⟨g, k * 9 + 8, none⟩ (.slice ao n1 cp)).cell? ⟨p, 2, none⟩ = some (.slice (some ⟨g, 0, none⟩) n cap) ∧ ∃ G' V', RAct w (w2.setCell ⟨g, k * 9 + 8, none⟩ (.slice ao n1 cp)) G G' p v v V' (doneS S e.id l)) := by
    refine (copy_any sa sc n1 l W1.drew HBr1.out HN1.out).mono ?_
    rintro r w2 ⟨ao, cp, rfl, ho, hbl⟩
    have hbl' : Below W1.heap.size W1.drew w2 := hbl
    have hB2 : Below W1.heap.size W1 w2 := ⟨hbl'.os, hbl'.tape, hbl'.output, hbl'.size, hbl'.block⟩
    have hg2 := (hB2.block g (by omega)).trans hq1
    have hp2 := hB2.block p (by omega)
    have hc2 : w2.cell? ⟨p, 2, none⟩ = some (.slice (some ⟨g, 0, none⟩) n cap) := (cell_block hp2).trans c2'
    refine ⟨ao, cp, rfl, hc2, (cell_block (hB2.block g (by omega))).trans h8, blk_free hg2 _, ?_, HFin.out w2 ao cp hB2 (by rw [← hsz1]; exact ho)⟩
    rw [cell_block (Below.heap_setCell _ _ _ _ (fun e9 => hgp (by have : p = g := e9; exact this.symm)))]; exact hc2
  clear HFin HBr1 hk1 h7 f7 hq1 hcs hg hr r1 r2 hVe
  have hkz9 : ((k : Int)).toNat = k := by omega
  go_region_held3 (fun w' => w'.cell? ⟨p, 2, none⟩ = some (.slice (some ⟨g, 0, none⟩) n cap)) (first | exact hs4 | exact hs3 | go_keep) (first | (go_at_call 20; refine Calls.mono HC.out ?_; rintro r w2 ⟨ao, cp, rfl, hs3, h82, f82, hs4, hfin⟩; have HF9 : Hid _ := hfin; clear hfin) | fail)
  go_wp2
  go_ret
  exact ⟨rfl, HF9.out⟩
end
end Go.Proofs.Ytoabigjajnikcaa
