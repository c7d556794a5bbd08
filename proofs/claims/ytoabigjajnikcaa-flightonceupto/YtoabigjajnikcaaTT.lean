import Derived.Test.YtoabigjajnikcaaTR
namespace Go.Proofs.Ytoabigjajnikcaa
open Go.RowKit Go.Maps
attribute [local go_sem] Oper.semAt_some
set_option linter.unusedVariables false
set_option linter.unusedSimpArgs false
set_option maxRecDepth 100000

section
variable {w : World} {G : Nat → Prop} {p : Nat} {v : Value} {V : Int → Value} {S : St}
theorem RR.takeAt (h : RR w G p v V S) {k : Nat} {e : En} (he : S.L[k]? = some e) {w2 : World} {v' : Value} {m : Nat} (hm : m + 1 = S.L.length) (hB : Below w.heap.size w w2) (ho : w2.ownsRow w.heap.size TEn 9 v' m ((S.L.take k).flatMap (fun e => vcl (V e.id)) ++ (S.L.drop (k + 1)).flatMap (fun e => vcl (V e.id)))) :
    RAct w (w2.setCell ⟨p, 2, none⟩ v') G G p v v' V (takeS S e.id) := by
  have hk3 := keptIn_set w2 p 2 v'
  have hK : KeptIn (fun x => x = p) w (w2.setCell ⟨p, 2, none⟩ v') := (KeptIn.ofBelow (S := fun x => x = p) hB).trans hk3 (fun _ _ hn => hn)
  have hvl : ∀ g, v'.ownBlock = some g → w.heap.size ≤ g := fun g hg => (row_lt ho g hg).2.1
  have hpw := h.ltp
  obtain ⟨A, B, hL, hAk⟩ := split_at S.L k e he
  obtain ⟨hA, hBn⟩ := split_ids (by rw [← hL]; exact h.ok.rise)
  have hT : (takeS S e.id).L = A ++ B := by
    simp only [takeS, hL]
    exact split_take hA hBn
  have e1 : S.L.take k = A := by rw [hL, ← hAk, List.take_left']; rfl
  have e2 : S.L.drop (k + 1) = B := by rw [hL, ← hAk, ← List.drop_drop, List.drop_left' rfl]; rfl
  refine ⟨⟨fun x hx => Nat.lt_of_lt_of_le (h.lt x hx) hK.size, h.np, fun x hx hG => ?_, ?_, ?_, ?_, takeS_ok h.ok e.id⟩, hK.mono (fun x _ e9 => .inl e9), fun x hx => ?_⟩
  · have h1 := hvl x hx
    have h2 := h.lt x hG
    omega
  · exact put_box ((hB.block p hpw).trans h.blk) 2 v' rfl
  · have hr := row_same ho (w' := w2.setCell ⟨p, 2, none⟩ v') (fun x hx => Below.heap_setCell _ _ _ _ (fun e9 => by have e8 : x = p := e9; have := hvl x hx; omega))
    rw [hT, List.flatMap_append, ← e1, ← e2]
    have e3 : (S.L.take k ++ S.L.drop (k + 1)).length = m := by rw [e1, e2, List.length_append]; rw [hL] at hm; simp at hm; omega
    rw [e3]
    exact ⟨hr.1, hr.2.imp (fun h => h) (fun ⟨g, c, cur, h1, h2, h3⟩ => ⟨g, c, cur, h1, Nat.zero_le _, h3⟩)⟩
  · intro x hx
    have hx' : x ∈ S.L := (List.mem_filter.1 hx).1
    exact (h.pv x hx').keep hK h.lt (fun z hz e9 => h.np (e9 ▸ hz))
  · rcases hx with e9 | e9 | e9
    · exact .inl (.inl e9)
    · exact .inr (hvl x e9)
    · exact .inl (.inr (.inr e9))
set_option maxHeartbeats 4000000 in
theorem rtake_ok (h : RR w G p v V S) (k : Nat) (e : En) (he : S.L[k]? = some e) (hrd : e.rd = true) : Calls Try.prog 29 #[.pointer (some ⟨p, 0, none⟩), .int .i64 e.id] w fun r w' => ∃ aa ac, r = .returned (.tuple #[.slice aa e.an.length ac, .int .i64 0]) ∧ FRow w G aa ac e.an ∧ ∃ v', RAct w w' G G p v v' V (takeS S e.id) := by
  obtain ⟨i0, hi, hz0, hz1, hz2⟩ := info_parts infoE
  have HF : Hid _ := rfind_yes h k e he
  have hlen : S.L.length ≤ 64 := Nat.le_trans h.ok.len h.ok.m2
  have hk := (List.getElem?_eq_some_iff.1 he).1
  obtain ⟨g, cap, da, dc, aa, ac, hv, hcap1, hcap2, hr, r1, r2, hVe, cur, hg, hcs⟩ := h.cells k e he
  obtain ⟨n, hn⟩ : ∃ n, S.L.length = n := ⟨_, rfl⟩
  have hc2 : w.cell? ⟨p, 2, none⟩ = some (.slice (some ⟨g, 0, none⟩) n cap) := (h.c 2).trans (by rw [hv, hn]; rfl)
  have h7 : w.cell? ⟨g, k * 9 + 7, none⟩ = some (.bool true) := by rw [← hrd]; exact hr 7 _ rfl
  have h8 : w.cell? ⟨g, k * 9 + 8, none⟩ = some (.slice aa e.an.length ac) := hr 8 _ rfl
  have hpw := h.ltp
  have HN : Hid _ := hn
  have hrow := h.row
  rw [hv] at hrow
  have hl9 : ∀ x ∈ S.L, (vcl (V x.id)).length = 9 := fun x hx => vcl_len (h.pv x hx)
  have hone : ∀ u ∈ S.L.flatMap (fun e => vcl (V e.id)), u.oneCell' = true := fun u hu => by
    obtain ⟨x, hx, hux⟩ := List.mem_flatMap.1 hu
    obtain ⟨d1, d2, a1, a2, hVx, _⟩ := (h.pv x hx).ex
    rw [hVx] at hux
    have := Array.all_eq_true_iff_forall_mem.1 (oneEcl x d1 a1 d2 a2) u (by simpa [vcl] using hux)
    exact this
  have HCA : Hid (∀ wr, Below w.heap.size w wr → ∀ j u, ((S.L.take k).flatMap (fun e => vcl (V e.id)))[j]? = some u → wr.cell? ((⟨g, 0, none⟩ : Addr).add j) = some u) := fun wr hb j u hu => by
    rw [add_plain, cell_block (hb.block g (block_lt hg)), Nat.zero_add]
    have hj : j < k * 9 := by
      have := (List.getElem?_eq_some_iff.1 hu).1
      rw [flat_len _ _ (fun x hx => hl9 x (List.mem_of_mem_take hx)), List.length_take] at this
      omega
    rw [hrow.cellAt j (by omega), ← hu]
    conv => lhs; rw [show S.L = S.L.take k ++ S.L.drop k from (List.take_append_drop k S.L).symm]
    rw [List.flatMap_append, List.getElem?_append_left (by rw [flat_len _ _ (fun x hx => hl9 x (List.mem_of_mem_take hx)), List.length_take]; omega)]
  have HCB : Hid (∀ wr, Below w.heap.size w wr → ∀ j u, ((S.L.drop (k + 1)).flatMap (fun e => vcl (V e.id)))[j]? = some u → wr.cell? ((⟨g, (k + 1) * 9, none⟩ : Addr).add j) = some u) := fun wr hb j u hu => by
    rw [add_plain, cell_block (hb.block g (block_lt hg))]
    have hj : j < (n - (k + 1)) * 9 := by
      have := (List.getElem?_eq_some_iff.1 hu).1
      rw [flat_len _ _ (fun x hx => hl9 x (List.mem_of_mem_drop hx)), List.length_drop] at this
      omega
    have h9 : (k + 1) * 9 + j < S.L.length * 9 := by omega
    rw [hrow.cellAt _ h9, ← hu]
    conv => lhs; rw [show S.L = S.L.take (k + 1) ++ S.L.drop (k + 1) from (List.take_append_drop (k + 1) S.L).symm]
    have h10 : ((S.L.take (k + 1)).flatMap (fun e => vcl (V e.id))).length = (k + 1) * 9 := by rw [flat_len _ _ (fun x hx => hl9 x (List.mem_of_mem_take hx)), List.length_take]; omega
    rw [List.flatMap_append, List.getElem?_append_right (by omega), h10]
    congr 1; omega
  have HLA : Hid (((S.L.take k).flatMap (fun e => vcl (V e.id))).length = k * 9) := by
    show _ = _
    rw [flat_len _ _ (fun x hx => hl9 x (List.mem_of_mem_take hx)), List.length_take]; omega
  have HLB : Hid (((S.L.drop (k + 1)).flatMap (fun e => vcl (V e.id))).length = (n - (k + 1)) * 9) := by
    show _ = _
    rw [flat_len _ _ (fun x hx => hl9 x (List.mem_of_mem_drop hx)), List.length_drop, HN.out]
  have HOA : Hid (∀ u ∈ (S.L.take k).flatMap (fun e => vcl (V e.id)), u.oneCell' = true) := fun u hu => hone u (by
    obtain ⟨x, hx, hux⟩ := List.mem_flatMap.1 hu
    exact List.mem_flatMap.2 ⟨x, List.mem_of_mem_take hx, hux⟩)
  have HOB : Hid (∀ u ∈ (S.L.drop (k + 1)).flatMap (fun e => vcl (V e.id)), u.oneCell' = true) := fun u hu => hone u (by
    obtain ⟨x, hx, hux⟩ := List.mem_flatMap.1 hu
    exact List.mem_flatMap.2 ⟨x, List.mem_of_mem_drop hx, hux⟩)
  have R2 : Hid _ := r2
  have HFin : Hid (∀ w2 v', Below w.heap.size w w2 → w2.ownsRow w.heap.size TEn 9 v' (k + (n - (k + 1))) ((S.L.take k).flatMap (fun e => vcl (V e.id)) ++ (S.L.drop (k + 1)).flatMap (fun e => vcl (V e.id))) → RAct w (w2.setCell ⟨p, 2, none⟩ v') G G p v v' V (takeS S e.id)) := fun w2 v' hb ho => h.takeAt he (by omega) hb ho
  have HPb : Hid (∀ wr, Below w.heap.size w wr → wr.cell? ⟨p, 2, none⟩ = some (.slice (some ⟨g, 0, none⟩) n cap) ∧ wr.frozen? ⟨p, 2, none⟩ = false) := fun wr hb => ⟨(cell_block (hb.block p hpw)).trans hc2, blk_free ((hb.block p hpw).trans h.blk) 2⟩
  rw [hn] at hk hcap1 hlen
  have hkz : (k : Int) < (n : Int) := by omega
  have hk0 : ¬ (k : Int) < 0 := by omega
  obtain ⟨nn, hnn⟩ : ∃ m, e.an.length = m := ⟨_, rfl⟩
  rw [hnn] at h8 ⊢
  clear h hr r1 r2 hn hv hVe hrow hl9 hone hg hcs
  have hkc : (k : Int) ≤ (cap : Int) := by omega
  have hwk : IntKind.i64.wrap ((k : Int) + 1) = ((k + 1 : Nat) : Int) := by rw [IntKind.wrap_i64]; omega
  go_enter Try.func29, Try.ntmps29
  go_wp2_with fail
  refine Calls.mono HF.out ?_
  rintro r w9 ⟨rfl, hw⟩
  rw [hw]; clear hw w9 HF
  have hsub : IntKind.i64.wrap ((n : Int) - ((k + 1 : Nat) : Int)) = ((n - (k + 1) : Nat) : Int) := by rw [IntKind.wrap_i64]; omega
  have hsub2 : IntKind.i64.wrap ((cap : Int) - ((k + 1 : Nat) : Int)) = ((cap - (k + 1) : Nat) : Int) := by rw [IntKind.wrap_i64]; omega
  have hle1 : ((k + 1 : Nat) : Int) ≤ (n : Int) := by omega
  have hle2 : (k : Int) + 1 ≤ (n : Int) := by omega
  by_cases hce : cap = k + 1
  · subst hce
    obtain rfl : n = k + 1 := by omega
    have HLB0 : Hid (((S.L.drop (k + 1)).flatMap (fun e => vcl (V e.id))).length = 0 * 9) := by
      have := HLB.out
      rw [Nat.sub_self] at this; exact this
    rw [Nat.sub_self] at HFin
    go_wp2_with (first | (at_builtin; refine wpList_append_own _ rfl (.tmp 31) (.tmp 37) 61 rfl w.heap.size TEn i0 (.agg zC) 9 96 Try.underlying61 hi hz0 hz1 hz2 rfl (by omega) (.slice none 0 0) 0 [] rfl (World.ownsRow_nil _ _ _ _) ⟨g, 0, none⟩ k (k + 1) ((S.L.take k).flatMap (fun e => vcl (V e.id))) rfl HLA.out (HCA.out w (Below.refl _ _)) HOA.out (by unfold maxLen; omega) (by omega) (Nat.le_refl _) ?_; intro v1 w1 ho1 hg1 hn1; have HB1 : Hid (Below w.heap.size w w1) := (Below.refl _ _).grown hg1 (Nat.le_refl _) (by intro k hk; simp [Value.ownBlock] at hk); have hpc := (HPb.out w1 HB1.out).1; have HO1 : Hid (w1.ownsRow w.heap.size TEn 9 v1 k ((S.L.take k).flatMap (fun e => vcl (V e.id)))) := (by have := ho1; rwa [Nat.zero_add, List.nil_append] at this); obtain ⟨vo, vc, hv1⟩ := owns_form9 ho1; rw [Nat.zero_add] at hv1; subst hv1; clear ho1 hg1 hn1) | (at_builtin; refine wpList_append_own _ rfl (.tmp 39) (.tmp 46) 61 rfl w.heap.size TEn i0 (.agg zC) 9 96 Try.underlying61 hi hz0 hz1 hz2 rfl (by omega) (.slice vo k vc) k _ rfl HO1.out ⟨g, 0, none⟩ 0 0 ((S.L.drop (k + 1)).flatMap (fun e => vcl (V e.id))) (by first | rfl | simp [Act.eval, Act.put]) HLB0.out (fun j u hu => by have h1 := (List.getElem?_eq_some_iff.1 hu).1; have h2 := HLB0.out; omega) HOB.out (by unfold maxLen; omega) (by omega) HB1.out.size ?_; intro v2 w2 ho2 hg2 hn2; have HB2 : Hid (Below w.heap.size w w2) := HB1.out.grown hg2 HB1.out.size (fun j hj => (row_lt HO1.out j hj).2.1); have hpc2 := (HPb.out w2 HB2.out).1; have hpf2 := (HPb.out w2 HB2.out).2; have HO2 : Hid _ := ho2; obtain ⟨uo, uc, hv2⟩ := owns_form9 ho2; subst hv2; clear ho2 hg2 hn2))
    go_wp2
    go_ret2
    exact ⟨aa, ac, rfl, R2.out, _, HFin.out _ _ HB2.out HO2.out⟩
  · have hce2 : k + 1 < cap := by omega
    go_wp2_with (first | (at_builtin; refine wpList_append_own _ rfl (.tmp 31) (.tmp 37) 61 rfl w.heap.size TEn i0 (.agg zC) 9 96 Try.underlying61 hi hz0 hz1 hz2 rfl (by omega) (.slice none 0 0) 0 [] rfl (World.ownsRow_nil _ _ _ _) ⟨g, 0, none⟩ k cap ((S.L.take k).flatMap (fun e => vcl (V e.id))) rfl HLA.out (HCA.out w (Below.refl _ _)) HOA.out (by unfold maxLen; omega) (by omega) (Nat.le_refl _) ?_; intro v1 w1 ho1 hg1 hn1; have HB1 : Hid (Below w.heap.size w w1) := (Below.refl _ _).grown hg1 (Nat.le_refl _) (by intro k hk; simp [Value.ownBlock] at hk); have hpc := (HPb.out w1 HB1.out).1; have HO1 : Hid (w1.ownsRow w.heap.size TEn 9 v1 k ((S.L.take k).flatMap (fun e => vcl (V e.id)))) := (by have := ho1; rwa [Nat.zero_add, List.nil_append] at this); obtain ⟨vo, vc, hv1⟩ := owns_form9 ho1; rw [Nat.zero_add] at hv1; subst hv1; clear ho1 hg1 hn1) | (at_builtin; refine wpList_append_own _ rfl (.tmp 39) (.tmp 46) 61 rfl w.heap.size TEn i0 (.agg zC) 9 96 Try.underlying61 hi hz0 hz1 hz2 rfl (by omega) (.slice vo k vc) k _ rfl HO1.out ⟨g, (k + 1) * 9, none⟩ (n - (k + 1)) (cap - (k + 1)) ((S.L.drop (k + 1)).flatMap (fun e => vcl (V e.id))) (by first | rfl | simp [Act.eval, Act.put]) HLB.out (HCB.out w1 HB1.out) HOB.out (by unfold maxLen; omega) (by omega) HB1.out.size ?_; intro v2 w2 ho2 hg2 hn2; have HB2 : Hid (Below w.heap.size w w2) := HB1.out.grown hg2 HB1.out.size (fun j hj => (row_lt HO1.out j hj).2.1); have hpc2 := (HPb.out w2 HB2.out).1; have hpf2 := (HPb.out w2 HB2.out).2; have HO2 : Hid _ := ho2; obtain ⟨uo, uc, hv2⟩ := owns_form9 ho2; subst hv2; clear ho2 hg2 hn2))
    go_wp2
    go_ret2
    exact ⟨aa, ac, rfl, R2.out, _, HFin.out _ _ HB2.out HO2.out⟩
end
end Go.Proofs.Ytoabigjajnikcaa
