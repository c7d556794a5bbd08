import Derived.Test.YtefgdhoapmikhaaDoorRpBs
import Derived.Test.YtefgdhoapmikhaaDoorJLc
import Derived.Test.YtefgdhoapmikhaaDoorJLd
import Derived.Test.YtefgdhoapmikhaaDoorJLg
import Derived.Test.YtefgdhoapmikhaaDoorRpL
namespace Go.Proofs.YtefgdhoapmikhaaDoor
open Go.RowKit
set_option linter.unusedVariables false
set_option linter.unusedSimpArgs false
set_option maxRecDepth 100000
theorem val_of {l pre tl : List Nat} (x k a : Nat) (h : l = pre ++ (bigTo x k k ++ tl)) (ha : pre.length = a) (hx : x < 256 ^ k) : valB ((l.drop a).take k) = x := by
  rw [h, ← ha, List.drop_left, List.take_append_of_le_length (by rw [bigTo_length]; omega), List.take_of_length_le (by rw [bigTo_length]; omega), valB_big x k hx]
theorem tail_of {l pre d m : List Nat} {k : Nat} (a : Nat) (h : l = pre ++ (d ++ m)) (ha : pre.length = a) (hk : d.length = k) : (l.drop a).take k = d := by
  rw [h, ← ha, List.drop_left, ← hk, List.take_append_of_le_length (Nat.le_refl _), List.take_of_length_le (Nat.le_refl _)]
theorem dec_chunk (ex : Bool) (x : Say) (rest : List Nat) (hx : okS x) (hd : x.2.2.2.2.length ≤ 4294967295) (ho : ex = false → x.2.2.2.1 = 0) (b off cap : Nat) (w : World) (h : CRow w (some ⟨b, off, none⟩) cap (enS ex x ++ rest)) :
    Calls Tryd.prog 50 #[.slice (some ⟨b, off, none⟩) (enS ex x ++ rest).length cap, .int .u32 4294967295, .bool ex] w fun e w' => ∃ ao2 cap2, e = .returned (.tuple #[.agg #[.int .u16 (x.1 : Int), .int .u16 (x.2.1 : Int), .int .u64 (x.2.2.1 : Int), .int .u64 (x.2.2.2.1 : Int), .slice ao2 x.2.2.2.2.length cap2], .int .i64 ((enS ex x).length : Int), .int .i64 0]) ∧ w'.ownsRow w.heap.size 5 1 (.slice ao2 x.2.2.2.2.length cap2) x.2.2.2.2.length (x.2.2.2.2.map bv) ∧ Below w.heap.size w w' := by
  obtain ⟨f, t, c, o, d⟩ := x
  obtain ⟨h1, h2, h3, h4, h5⟩ := hx
  simp only at h1 h2 h3 h4 h5 hd ho
  have hlen : d.length % 4294967296 = d.length := Nat.mod_eq_of_lt (by omega)
  cases ex
  · have h0 := ho rfl
    subst h0
    have e : enS false (f, t, c, 0, d) = cL f t c d := rfl
    rw [e] at h ⊢
    have el : (cL f t c d).length = 20 + d.length := by simp [cL, bigTo_length, nL_length]; omega
    have hl : (cL f t c d ++ rest).length = 20 + d.length + rest.length := by rw [List.length_append, el]
    exact decChunk0_ok b off cap _ (cL f t c d ++ rest) 4294967295 f t c d.length w h rfl (by omega)
      (val_of (pre := []) (tl := bigTo f 2 2 ++ (bigTo t 2 2 ++ (bigTo c 8 8 ++ (nL d.length false ++ (d ++ rest))))) mChunk 4 0 (by simp [cL]) rfl (by decide))
      (val_of (pre := bigTo mChunk 4 4) (tl := bigTo t 2 2 ++ (bigTo c 8 8 ++ (nL d.length false ++ (d ++ rest)))) f 2 4 (by simp [cL]) (by simp [bigTo_length]) (by omega))
      (val_of (pre := bigTo mChunk 4 4 ++ bigTo f 2 2) (tl := bigTo c 8 8 ++ (nL d.length false ++ (d ++ rest))) t 2 6 (by simp [cL]) (by simp [bigTo_length]) (by omega))
      (val_of (pre := bigTo mChunk 4 4 ++ bigTo f 2 2 ++ bigTo t 2 2) (tl := nL d.length false ++ (d ++ rest)) c 8 8 (by simp [cL]) (by simp [bigTo_length]) (by omega))
      (val_of (pre := bigTo mChunk 4 4 ++ bigTo f 2 2 ++ bigTo t 2 2 ++ bigTo c 8 8) (tl := d ++ rest) d.length 4 16 (by simp [cL, nL, hlen]) (by simp [bigTo_length]) (by omega))
      (by omega) (by decide) hd (by omega) _ (by rw [el]) d
      (tail_of (pre := bigTo mChunk 4 4 ++ bigTo f 2 2 ++ bigTo t 2 2 ++ bigTo c 8 8 ++ nL d.length false) (m := rest) 20 (by simp [cL]) (by simp [bigTo_length, nL_length]) rfl)
  · have e : enS true (f, t, c, o, d) = cL64 f t c o d := rfl
    rw [e] at h ⊢
    have el : (cL64 f t c o d).length = 32 + d.length := by simp [cL64, bigTo_length, nL_length]; omega
    have hl : (cL64 f t c o d ++ rest).length = 32 + d.length + rest.length := by rw [List.length_append, el]
    exact decChunk1_ok b off cap _ (cL64 f t c o d ++ rest) 4294967295 f t c o d.length w h rfl (by omega)
      (val_of (pre := []) (tl := bigTo f 2 2 ++ (bigTo t 2 2 ++ (bigTo c 8 8 ++ (bigTo o 8 8 ++ (nL d.length true ++ (d ++ rest)))))) mChunk64 4 0 (by simp [cL64]) rfl (by decide))
      (val_of (pre := bigTo mChunk64 4 4) (tl := bigTo t 2 2 ++ (bigTo c 8 8 ++ (bigTo o 8 8 ++ (nL d.length true ++ (d ++ rest))))) f 2 4 (by simp [cL64]) (by simp [bigTo_length]) (by omega))
      (val_of (pre := bigTo mChunk64 4 4 ++ bigTo f 2 2) (tl := bigTo c 8 8 ++ (bigTo o 8 8 ++ (nL d.length true ++ (d ++ rest)))) t 2 6 (by simp [cL64]) (by simp [bigTo_length]) (by omega))
      (val_of (pre := bigTo mChunk64 4 4 ++ bigTo f 2 2 ++ bigTo t 2 2) (tl := bigTo o 8 8 ++ (nL d.length true ++ (d ++ rest))) c 8 8 (by simp [cL64]) (by simp [bigTo_length]) (by omega))
      (val_of (pre := bigTo mChunk64 4 4 ++ bigTo f 2 2 ++ bigTo t 2 2 ++ bigTo c 8 8) (tl := nL d.length true ++ (d ++ rest)) o 8 16 (by simp [cL64]) (by simp [bigTo_length]) (by omega))
      (val_of (pre := bigTo mChunk64 4 4 ++ bigTo f 2 2 ++ bigTo t 2 2 ++ bigTo c 8 8 ++ bigTo o 8 8) (tl := d ++ rest) d.length 8 24 (by simp [cL64, nL]) (by simp [bigTo_length]) (by omega))
      (by omega) (by decide) hd (by omega) _ (by rw [el]) d
      (tail_of (pre := bigTo mChunk64 4 4 ++ bigTo f 2 2 ++ bigTo t 2 2 ++ bigTo c 8 8 ++ bigTo o 8 8 ++ nL d.length true) (m := rest) 32 (by simp [cL64]) (by simp [bigTo_length, nL_length]) rfl)
theorem dec_simple (c k : Nat) (rest : List Nat) (hc : c < 4294967296) (hk : k < 18446744073709551616) (b off cap : Nat) (w : World) (h : CRow w (some ⟨b, off, none⟩) cap (sL c k ++ rest)) :
    Calls Tryd.prog 26 #[.slice (some ⟨b, off, none⟩) (sL c k ++ rest).length cap] w fun e w' => e = .returned (.tuple #[.agg #[.int .u32 (c : Int), .int .u64 (k : Int)], .int .i64 16, .int .i64 0]) ∧ Below w.heap.size w w' := by
  have hl : (sL c k ++ rest).length = 16 + rest.length := by simp [sL, bigTo_length]; omega
  exact decSimple_ok b off cap _ (sL c k ++ rest) c k w h rfl (by omega)
    (val_of (pre := []) (tl := bigTo c 4 4 ++ (bigTo k 8 8 ++ rest)) mSimple 4 0 (by simp [sL]) rfl (by decide))
    (val_of (pre := bigTo mSimple 4 4) (tl := bigTo k 8 8 ++ rest) c 4 4 (by simp [sL]) (by simp [bigTo_length]) (by omega))
    (val_of (pre := bigTo mSimple 4 4 ++ bigTo c 4 4) (tl := rest) k 8 8 (by simp [sL]) (by simp [bigTo_length]) (by omega))
def lenOf : Value → Nat
  | .slice _ n _ => n
  | _ => 0
theorem enS_pos (ex : Bool) (x : Say) : 20 ≤ (enS ex x).length := by unfold enS; split <;> simp [cL64, cL, bigTo_length, nL_length] <;> omega
theorem enS_mem (ex : Bool) (x : Say) : ∀ y ∈ x.2.2.2.2, y ∈ enS ex x := by
  intro y hy
  unfold enS
  split <;> exact List.mem_append_right _ hy
theorem crow_past {w : World} {b off bc N : Nat} {l1 l2 : List Nat} (h : CRow w (some ⟨b, off, none⟩) bc (l1 ++ l2)) (h1 : l1.length = N) : CRow w (if bc = N then some ⟨b, off, none⟩ else some ⟨b, off + N, none⟩) (bc - N) l2 := by
  have hl := h.cap1
  rw [List.length_append, h1] at hl
  have hlen := h.row.len
  rw [List.length_append, h1] at hlen
  refine ⟨⟨fun x hx => h.row.lt x (List.mem_append_right _ hx), by omega, (fun e => by split at e <;> cases e), fun hne => ?_⟩, by omega, by have := h.cap2; omega⟩
  have hpos : 0 < l2.length := List.length_pos_iff.2 hne
  rw [if_neg (by omega)]
  obtain ⟨b', o', e, hc⟩ := h.row.at_ (by simp [hne])
  simp at e
  obtain ⟨rfl, rfl⟩ := e
  refine ⟨b, off + N, rfl, fun k hk => ?_⟩
  have := hc (N + k) (by rw [List.length_append, h1]; omega)
  rw [List.getElem_append_right (by omega)] at this
  rw [Nat.add_assoc, this]
  simp [h1]
set_option maxHeartbeats 4000000 in
theorem cut_any (ao : Option Addr) (cap n : Nat) (S : List Say) (ex : Bool) (w : World) (h : CRow w ao cap (encS ex S)) (HN : Hid ((encS ex S).length = n)) (HOk : Hid (∀ x ∈ S, okS x ∧ x.2.2.2.2.length ≤ 4294967295 ∧ (ex = false → x.2.2.2.1 = 0))) (hS : S.length ≤ 1048576) :
    Calls Tryd.prog 27 #[.slice ao n cap, .bool ex] w fun e w' => ∃ v L, e = .returned (.tuple #[v, .bool true]) ∧ Cks w w' v L ∧ L.map Ck.say = S ∧ Below w.heap.size w w' := by
  obtain ⟨i0, hi, hz0, hz1, hz2⟩ := info_parts infoCk
  have HNm : Hid (∀ e W, Calls Tryd.prog 9 #[.int .i64 e] W fun r w' => r = .returned (.int .i64 e) ∧ w' = W) := num_any
  have HR : Hid (CRow w ao cap (encS ex S)) := h
  clear h
  go_enter Tryd.func27, Tryd.ntmps27
  go_wp2
  go_loopw [0, 6] (fun bv' lv wr => ∃ (k : Nat) (bo : Option Addr) (bn bc : Nat) (vo : Option Addr) (vc : Nat) (L : List Ck), k ≤ S.length ∧ bv' = .slice bo bn bc ∧ bn = (encS ex (S.drop k)).length ∧ CRow w bo bc (encS ex (S.drop k)) ∧ lv = .slice vo k vc ∧ L.length = k ∧ Cks w wr (.slice vo k vc) L ∧ L.map Ck.say = S.take k ∧ Below w.heap.size w wr) (fun b _ _ => lenOf b)
  case atStart => exact ⟨0, ao, n, cap, none, 0, [], Nat.zero_le _, rfl, HN.out.symm, HR.out, rfl, rfl, Cks.nil w, rfl, Below.refl _ _⟩
  case round =>
    obtain ⟨k, bo, bn, bc, vo, vc, L, hk, rfl, hbn, hcr, rfl, hLk, hck, hsay, hbw⟩ := hrel
    have HK : Hid (Cks w wr (.slice vo k vc) L ∧ L.length = k ∧ L.map Ck.say = S.take k ∧ Below w.heap.size w wr) := ⟨hck, hLk, hsay, hbw⟩
    clear hck hLk hsay hbw HR
    by_cases hlt : k < S.length
    · have hdr : encS ex (S.drop k) = enS ex S[k] ++ encS ex (S.drop (k + 1)) := by unfold encS; rw [List.drop_eq_getElem_cons hlt]; rfl
      have hok := HOk.out _ (List.getElem_mem hlt)
      have hpos := enS_pos ex S[k]
      have HT : Hid (S.take (k + 1) = S.take k ++ [S[k]]) := List.take_succ_eq_append_getElem hlt
      have hle := hcr.row.len
      rw [hdr] at hbn hcr hle
      generalize S[k] = x at *
      have hbn0 : 0 < bn := by rw [hbn, List.length_append]; omega
      obtain ⟨b, off, rfl⟩ := hcr.some (by rw [List.length_append]; omega)
      have HCR : Hid (CRow w (some ⟨b, off, none⟩) bc (enS ex x ++ encS ex (S.drop (k + 1)))) := hcr
      have hcap := hcr.cap1
      have hcap2 := hcr.cap2
      rw [← hbn] at hcap hle
      have HDc : Hid (∀ W, Below w.heap.size w W → Calls Tryd.prog 50 #[.slice (some ⟨b, off, none⟩) bn bc, .int .u32 4294967295, .bool ex] W fun e w' => ∃ ao2 cap2, e = .returned (.tuple #[.agg #[.int .u16 (x.1 : Int), .int .u16 (x.2.1 : Int), .int .u64 (x.2.2.1 : Int), .int .u64 (x.2.2.2.1 : Int), .slice ao2 x.2.2.2.2.length cap2], .int .i64 ((enS ex x).length : Int), .int .i64 0]) ∧ w'.ownsRow W.heap.size 5 1 (.slice ao2 x.2.2.2.2.length cap2) x.2.2.2.2.length (x.2.2.2.2.map bv) ∧ Below W.heap.size W w') := fun W hb => hbn ▸ dec_chunk ex x _ hok.1 hok.2.1 hok.2.2 b off bc W (hcr.later hb)
      have hsplit : bn = (enS ex x).length + (encS ex (S.drop (k + 1))).length := by rw [hbn, List.length_append]
      generalize hN' : (enS ex x).length = N at *
      have HN' : Hid ((enS ex x).length = N) := hN'
      have HSp : Hid (bn = N + (encS ex (S.drop (k + 1))).length) := hsplit
      have hNb : N ≤ bn := by omega
      clear hbn hcr hok hdr hsplit hN'
      go_wp2_with fail
      refine (HDc.out _ HK.out.2.2.2).mono ?_
      rintro e W1 ⟨ao2, cap2, rfl, how, hb1⟩
      have H1 : Hid (Cks w W1 (.slice vo k vc) L ∧ W1.ownsRow w.heap.size 5 1 (.slice ao2 x.2.2.2.2.length cap2) x.2.2.2.2.length (x.2.2.2.2.map bv) ∧ Below w.heap.size w W1 ∧ Below wr.heap.size wr W1) := ⟨HK.out.1.later hb1, owns_mono how HK.out.2.2.2.size, HK.out.2.2.2.trans (hb1.mono HK.out.2.2.2.size), hb1⟩
      clear how hb1 HDc
      have f1 : decide ((N : Int) < 1) = false := by simp; omega
      obtain ⟨xf, xt, xc, xo, xd⟩ := x
      simp only at H1
      go_wp2_with fail
      have h2 : Cks w (W1.alloc (Obj.cells #[.int .u16 (xf : Int), .int .u16 (xt : Int), .int .u64 (xc : Int), .int .u64 (xo : Int), .slice ao2 xd.length cap2] 70)) (.slice vo k vc) L ∧ (W1.alloc (Obj.cells #[.int .u16 (xf : Int), .int .u16 (xt : Int), .int .u64 (xc : Int), .int .u64 (xo : Int), .slice ao2 xd.length cap2] 70)).ownsRow w.heap.size 5 1 (.slice ao2 xd.length cap2) xd.length (xd.map bv) ∧ Below w.heap.size w (W1.alloc (Obj.cells #[.int .u16 (xf : Int), .int .u16 (xt : Int), .int .u64 (xc : Int), .int .u64 (xo : Int), .slice ao2 xd.length cap2] 70)) ∧ Below wr.heap.size wr (W1.alloc (Obj.cells #[.int .u16 (xf : Int), .int .u16 (xt : Int), .int .u64 (xc : Int), .int .u64 (xo : Int), .slice ao2 xd.length cap2] 70)) := ⟨H1.out.1.later (below1 W1 _), owns_same H1.out.2.1 (fun g hg => (below1 W1 _).block g (owns_lt H1.out.2.1 g hg).1), H1.out.2.2.1.alloc H1.out.2.2.1.size _, H1.out.2.2.2.alloc H1.out.2.2.2.size _⟩
      have bx := heap_new W1 (Obj.cells #[.int .u16 (xf : Int), .int .u16 (xt : Int), .int .u64 (xc : Int), .int .u64 (xo : Int), .slice ao2 xd.length cap2] 70)
      generalize (W1.alloc (Obj.cells #[.int .u16 (xf : Int), .int .u16 (xt : Int), .int .u64 (xc : Int), .int .u64 (xo : Int), .slice ao2 xd.length cap2] 70)) = W2 at *
      refine (HNm.out _ _).mono ?_
      rintro e W3 ⟨rfl, hw⟩
      rw [hw]; clear hw
      have y0 : W2.cell? ⟨W1.heap.size, 0, none⟩ = some (.int .u16 (xf : Int)) := by rw [blk_at bx]; rfl
      have y1 : W2.cell? ⟨W1.heap.size, 1, none⟩ = some (.int .u16 (xt : Int)) := by rw [blk_at bx]; rfl
      have y2 : W2.cell? ⟨W1.heap.size, 2, none⟩ = some (.int .u64 (xc : Int)) := by rw [blk_at bx]; rfl
      have y3 : W2.cell? ⟨W1.heap.size, 3, none⟩ = some (.int .u64 (xo : Int)) := by rw [blk_at bx]; rfl
      have y4 : W2.cell? ⟨W1.heap.size, 4, none⟩ = some (.slice ao2 xd.length cap2) := by rw [blk_at bx]; rfl
      have H2 : Hid (Cks w W2 (.slice vo k vc) L ∧ W2.ownsRow w.heap.size 5 1 (.slice ao2 xd.length cap2) xd.length (xd.map bv) ∧ Below w.heap.size w W2 ∧ Below wr.heap.size wr W2) := h2
      clear h2 bx H1
      have HO : Hid ((W2.alloc (.cells (⟨xf, xt, xc, xo, ao2, cap2, xd⟩ : Ck).cells.toArray 70)).ownsRow w.heap.size 70 5 (.slice vo k vc) k (L.flatMap Ck.cells)) := cks_own (H2.out.1.later (below1 W2 _)) HK.out.2.1
      go_wp2_with (at_builtin; refine wpList_append_lies _ rfl _ _ 50 rfl w.heap.size 70 i0 (.agg #[.int .u16 0, .int .u16 0, .int .u64 0, .int .u64 0, .slice none 0 0]) 5 48 Tryd.underlying50 hi hz0 hz1 hz2 rfl (by decide) (.slice vo k vc) k (L.flatMap Ck.cells) rfl HO.out ⟨W2.heap.size, 0, none⟩ 1 1 (⟨xf, xt, xc, xo, ao2, cap2, xd⟩ : Ck).cells rfl rfl (news5 W2 ⟨xf, xt, xc, xo, ao2, cap2, xd⟩ _) (ck_one _) (by decide) (by unfold maxLen; omega) (by omega) (Nat.le_trans H2.out.2.2.1.size (by simp)) (W2.heap.size + 1) (by simp) ?_)
      intro g7 cap7 W7 ho7 hg7 _ _
      have HLt : Hid (∀ y ∈ xd, y < 256) := fun y hy => HCR.out.row.lt y (List.mem_append_left _ (enS_mem ex (xf, xt, xc, xo, xd) y hy))
      have H7 : Hid (Cks w W7 (.slice (some ⟨g7, 0, none⟩) (k + 1) cap7) (L ++ [⟨xf, xt, xc, xo, ao2, cap2, xd⟩]) ∧ Below w.heap.size w W7) := by
        have hb := H2.out.2.2.1.alloc H2.out.2.2.1.size (Obj.cells (⟨xf, xt, xc, xo, ao2, cap2, xd⟩ : Ck).cells.toArray 70)
        have hc := H2.out.1.later (below1 W2 (Obj.cells (⟨xf, xt, xc, xo, ao2, cap2, xd⟩ : Ck).cells.toArray 70))
        exact ⟨hc.push ⟨xf, xt, xc, xo, ao2, cap2, xd⟩ (owns_same H2.out.2.1 (fun g hg => (below1 W2 _).block g (owns_lt H2.out.2.1 g hg).1)) HLt.out (by rw [HK.out.2.1]; exact ho7) hg7, hb.grown hg7 hb.size (fun j hj => (owns_ltK hc.own j hj).2.1)⟩
      clear ho7 hg7 HO H2 y0 y1 y2 y3 y4
      go_wp2
      refine ⟨⟨k + 1, _, _, _, _, _, L ++ [⟨xf, xt, xc, xo, ao2, cap2, xd⟩], by omega, rfl, by have := HSp.out; omega, crow_past HCR.out HN'.out, rfl, by simp [HK.out.2.1], H7.out.1, by rw [List.map_append, HK.out.2.2.1, HT.out]; rfl, H7.out.2⟩, ?_⟩
      simp only [lenOf]
      omega
    · have HZ : Hid (S.drop k = []) := List.drop_eq_nil_of_le (by omega)
      have HT : Hid (S.take k = S) := List.take_of_length_le (by omega)
      have hb0 : bn = 0 := by rw [hbn, HZ.out]; rfl
      subst hb0
      clear hcr hbn
      go_wp2
      go_ret2
      exact ⟨_, L, rfl, HK.out.1, by rw [HK.out.2.2.1, HT.out], HK.out.2.2.2⟩
end Go.Proofs.YtefgdhoapmikhaaDoor
