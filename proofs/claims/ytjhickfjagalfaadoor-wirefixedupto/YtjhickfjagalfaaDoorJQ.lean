import Derived.Test.YtjhickfjagalfaaDoorJO
namespace Go.Proofs.YtjhickfjagalfaaDoor
open Go.RowKit
set_option linter.unusedVariables false
set_option linter.unusedSimpArgs false
set_option maxRecDepth 100000

theorem gL_len (f : Nat) : (gL f).length = 18 := by simp [gL, bigTo_length]
theorem sL_len (c k : Nat) : (sL c k).length = 16 := by simp [sL, bigTo_length]
theorem app_lt {l m : List Nat} (h : ∀ x ∈ l, x < 256) (k : ∀ x ∈ m, x < 256) : ∀ x ∈ l ++ m, x < 256 := fun x hx => (List.mem_append.1 hx).elim (h x) (k x)
theorem decGreeting (b off cap n f : Nat) (m : List Nat) (w : World) (h : CRow w (some ⟨b, off, none⟩) cap (gL f ++ m)) (HN : (gL f ++ m).length = n) (hf : f < 65536) :
    Calls Tryd.prog 23 #[.slice (some ⟨b, off, none⟩) n cap] w fun e w' => e = .returned (.tuple #[.agg #[.int .u16 (f : Int)], .int .i64 18, .int .i64 0]) ∧ Below w.heap.size w w' := by
  have hx : gL f ++ m = bigTo mInit 8 8 ++ (bigTo mHave 8 8 ++ (bigTo f 2 2 ++ m)) := by simp [gL]
  refine decGreeting_ok b off cap n _ f w h HN (by rw [List.length_append, gL_len] at HN; omega) ?_ ?_ ?_
  · show valB _ = _
    rw [hx]; exact val_at mInit 8 [] _ 0 rfl (by decide)
  · show valB _ = _
    rw [hx]; exact val_at mHave 8 (bigTo mInit 8 8) _ 8 (bigTo_length _ _ _) (by decide)
  · show valB _ = _
    rw [hx, ← List.append_assoc]; exact val_at f 2 (bigTo mInit 8 8 ++ bigTo mHave 8 8) _ 16 (by simp [bigTo_length]) (by simpa using hf)
theorem decSimple (b off cap n c k : Nat) (m : List Nat) (w : World) (h : CRow w (some ⟨b, off, none⟩) cap (sL c k ++ m)) (HN : (sL c k ++ m).length = n) (hc : c < 4294967296) (hk : k < 18446744073709551616) :
    Calls Tryd.prog 26 #[.slice (some ⟨b, off, none⟩) n cap] w fun e w' => e = .returned (.tuple #[.agg #[.int .u32 (c : Int), .int .u64 (k : Int)], .int .i64 16, .int .i64 0]) ∧ Below w.heap.size w w' := by
  have hx : sL c k ++ m = bigTo mSimple 4 4 ++ (bigTo c 4 4 ++ (bigTo k 8 8 ++ m)) := by simp [sL]
  refine decSimple_ok b off cap n _ c k w h HN (by rw [List.length_append, sL_len] at HN; omega) ?_ ?_ ?_
  · show valB _ = _
    rw [hx]; exact val_at mSimple 4 [] _ 0 rfl (by decide)
  · show valB _ = _
    rw [hx]; exact val_at c 4 (bigTo mSimple 4 4) _ 4 (bigTo_length _ _ _) (by simpa using hc)
  · show valB _ = _
    rw [hx, ← List.append_assoc]; exact val_at k 8 (bigTo mSimple 4 4 ++ bigTo c 4 4) _ 8 (by simp [bigTo_length]) (by simpa using hk)
theorem decFlags (b off cap n f : Nat) (m : List Nat) (w : World) (h : CRow w (some ⟨b, off, none⟩) cap (bigTo f 4 4 ++ m)) (HN : (bigTo f 4 4 ++ m).length = n) (hf : f < 4294967296) :
    Calls Tryd.prog 24 #[.slice (some ⟨b, off, none⟩) n cap] w fun e w' => e = .returned (.tuple #[.int .u32 (f : Int), .int .i64 4, .int .i64 0]) ∧ Below w.heap.size w w' :=
  decFlags_ok b off cap n _ f w h HN (by rw [List.length_append, bigTo_length] at HN; omega) (by show valB _ = _; exact val_at f 4 [] m 0 rfl (by simpa using hf))
set_option maxHeartbeats 16000000 in
theorem wireFixed_any (f0 f xs xf sc sk : Nat) (z : Bool) (ao : Option Addr) (cap nm : Nat) (m : List Nat) (w : World) (hT : Tb w) (hf0 : f0 < 65536) (hf : f < 4294967296) (hxs : xs < 18446744073709551616) (hxf : xf < 65536) (hsc : sc < 4294967296) (hsk : sk < 18446744073709551616) (hm : BRow w ao cap m) (hnm : m.length = nm) (hn : nm ≤ 1099511627776) :
    Calls Tryd.prog 5 #[.agg #[.int .u16 (f0 : Int)], .int .u32 (f : Int), .agg #[.int .u64 (xs : Int), .int .u16 (xf : Int)], .bool z, .agg #[.int .u32 (sc : Int), .int .u64 (sk : Int)], .slice ao nm cap] w fun e w' => e = .returned (.bool true) ∧ Below w.heap.size w w' := by
  obtain ⟨i0, hi, hz0, hz1, hz2⟩ := info_parts Tryd.info5
  have HTb : Hid (Tb w) := hT
  have HM : Hid (BRow w ao cap m) := hm
  have HNm : Hid (m.length = nm) := hnm
  have EG : Hid (∀ W : World, Calls Tryd.prog 14 #[.agg #[.int .u16 (f0 : Int)]] W fun e w' => ∃ ao cap, e = .returned (.slice ao 18 cap) ∧ Row W w' ao cap (gL f0)) := fun W => by have := encGreeting f0 W hf0; rw [gL_len] at this; exact this
  have EF : Hid (∀ W : World, Calls Tryd.prog 15 #[.int .u32 (f : Int)] W fun e w' => ∃ ao cap, e = .returned (.slice ao 4 cap) ∧ Row W w' ao cap (bigTo f 4 4)) := fun W => encFlags f W hf
  have EX : Hid (∀ W : World, Calls Tryd.prog 16 #[.agg #[.int .u64 (xs : Int), .int .u16 (xf : Int)], .bool z] W fun e w' => ∃ ao cap, e = .returned (.slice ao (10 + zn z) cap) ∧ Row W w' ao cap (XL xs xf z)) := fun W => encExport xs xf z W hxs hxf
  have ES : Hid (∀ W : World, Calls Tryd.prog 17 #[.agg #[.int .u32 (sc : Int), .int .u64 (sk : Int)]] W fun e w' => ∃ ao cap, e = .returned (.slice ao 16 cap) ∧ Row W w' ao cap (sL sc sk)) := fun W => by have := encSimple sc sk W hsc hsk; rw [sL_len] at this; exact this
  have DG : Hid (∀ W : World, Calls Tryd.prog 19 #[.agg #[.int .u16 (f0 : Int)]] W fun e w' => ∃ ao cap, e = .returned (.slice ao 18 cap) ∧ Row W w' ao cap (gL f0)) := fun W => by have := rGreeting f0 W hf0; rw [gL_len] at this; exact this
  have DF : Hid (∀ W : World, Calls Tryd.prog 20 #[.int .u32 (f : Int)] W fun e w' => ∃ ao cap, e = .returned (.slice ao 4 cap) ∧ Row W w' ao cap (bigTo f 4 4)) := fun W => rFlags f W hf
  have DX : Hid (∀ W : World, Calls Tryd.prog 21 #[.agg #[.int .u64 (xs : Int), .int .u16 (xf : Int)], .bool z] W fun e w' => ∃ ao cap, e = .returned (.slice ao (10 + zn z) cap) ∧ Row W w' ao cap (XL xs xf z)) := fun W => rExport xs xf z W hxs hxf
  have DS : Hid (∀ W : World, Calls Tryd.prog 22 #[.agg #[.int .u32 (sc : Int), .int .u64 (sk : Int)]] W fun e w' => ∃ ao cap, e = .returned (.slice ao 16 cap) ∧ Row W w' ao cap (sL sc sk)) := fun W => by have := rSimple sc sk W hsc hsk; rw [sL_len] at this; exact this
  have HNum : Hid (∀ (e : Int) (w : World), Calls Tryd.prog 27 #[.int .i64 e] w fun r w' => r = .returned (.int .i64 e) ∧ w' = w) := num_any
  have HAl : Hid (∀ w, Tb w → Calls Tryd.prog 13 #[] w fun e w' => e = .returned (.bool true) ∧ Below w.heap.size w w') := alive_any
  have HP : Hid (f0 < 65536 ∧ f < 4294967296 ∧ xs < 18446744073709551616 ∧ xf < 65536 ∧ sc < 4294967296 ∧ sk < 18446744073709551616) := ⟨hf0, hf, hxs, hxf, hsc, hsk⟩
  have hzn : zn z ≤ 124 := by unfold zn; split <;> omega
  obtain ⟨W0, hW0⟩ : ∃ W0, W0 = ((w.alloc (.cells #[.int .u16 (f0 : Int)] 31)).alloc (.cells #[.int .u64 (xs : Int), .int .u16 (xf : Int)] 34)).alloc (.cells #[.int .u32 (sc : Int), .int .u64 (sk : Int)] 36) := ⟨_, rfl⟩
  have hQ0 : Below w.heap.size w W0 := by rw [hW0]; exact bx3_bel w _ _ _
  have hs0 : W0.heap.size = w.heap.size + 3 := by rw [hW0]; simp
  have g0 : W0.heap[w.heap.size]? = some (.cells #[.int .u16 (f0 : Int)] 31 (0, 0)) := by rw [hW0, Below.heap_alloc _ _ _ (by simp only [World.size_alloc]; omega), Below.heap_alloc _ _ _ (by simp)]; exact heap_new w _
  have g1 : W0.heap[w.heap.size + 1]? = some (.cells #[.int .u64 (xs : Int), .int .u16 (xf : Int)] 34 (0, 0)) := by
    have h := heap_new (w.alloc (.cells #[.int .u16 (f0 : Int)] 31)) (.cells #[.int .u64 (xs : Int), .int .u16 (xf : Int)] 34)
    rw [World.size_alloc] at h
    rw [hW0, Below.heap_alloc _ _ _ (by simp)]; exact h
  have g2 : W0.heap[w.heap.size + 1 + 1]? = some (.cells #[.int .u32 (sc : Int), .int .u64 (sk : Int)] 36 (0, 0)) := by
    have h := heap_new ((w.alloc (.cells #[.int .u16 (f0 : Int)] 31)).alloc (.cells #[.int .u64 (xs : Int), .int .u16 (xf : Int)] 34)) (.cells #[.int .u32 (sc : Int), .int .u64 (sk : Int)] 36)
    rw [World.size_alloc, World.size_alloc] at h
    rw [hW0]; exact h
  have HC : Hid (∀ W : World, Below W0.heap.size W0 W → ((W.cell? ⟨w.heap.size, 0, none⟩ = some (.int .u16 (f0 : Int)) ∧ W.cell? ⟨w.heap.size + 1, 0, none⟩ = some (.int .u64 (xs : Int))) ∧ W.cell? ⟨w.heap.size + 1, 1, none⟩ = some (.int .u16 (xf : Int))) ∧ W.cell? ⟨w.heap.size + 1 + 1, 0, none⟩ = some (.int .u32 (sc : Int)) ∧ W.cell? ⟨w.heap.size + 1 + 1, 1, none⟩ = some (.int .u64 (sk : Int))) := fun W hb => by
    have k0 := (hb.block w.heap.size (by omega)).trans g0
    have k1 := (hb.block (w.heap.size + 1) (by omega)).trans g1
    have k2 := (hb.block (w.heap.size + 1 + 1) (by omega)).trans g2
    exact ⟨⟨⟨blk_at k0 0, blk_at k1 0⟩, blk_at k1 1⟩, blk_at k2 0, blk_at k2 1⟩
  have HQ0 : Hid (Below w.heap.size w W0) := hQ0
  clear hT hm hnm hf0 hf hxs hxf hsc hsk g0 g1 g2 hQ0
  go_enter Tryd.func5, Tryd.ntmps5
  go_wp2
  rw [← hW0]
  clear hW0
  obtain ⟨⟨⟨y0, y1⟩, y2⟩, y3, y4⟩ := HC.out W0 (Below.refl _ _)
  go_region_held3 (fun w' => ((w'.cell? ⟨w.heap.size, 0, none⟩ = some (.int .u16 (f0 : Int)) ∧ w'.cell? ⟨w.heap.size + 1, 0, none⟩ = some (.int .u64 (xs : Int))) ∧ w'.cell? ⟨w.heap.size + 1, 1, none⟩ = some (.int .u16 (xf : Int))) ∧ w'.cell? ⟨w.heap.size + 1 + 1, 0, none⟩ = some (.int .u32 (sc : Int)) ∧ w'.cell? ⟨w.heap.size + 1 + 1, 1, none⟩ = some (.int .u64 (sk : Int))) (first | exact HC.out _ Q4.out | exact HC.out _ Q3.out | exact HC.out _ Q2.out | exact HC.out _ Q1.out | go_keep) (first | (go_at_call 14; refine (EG.out _).mono ?_; rintro e w1 ⟨ao1, cap1, rfl, h1⟩; have Q1 : Hid (Below W0.heap.size W0 w1) := ⟨h1.bel.os, h1.bel.tape, h1.bel.output, h1.bel.size, h1.bel.block⟩; have R1 : Hid _ := h1; clear h1) | (go_at_call 15; refine (EF.out _).mono ?_; rintro e w2 ⟨ao2, cap2, rfl, h2⟩; have Q2 : Hid (Below W0.heap.size W0 w2) := Q1.out.trans (h2.bel.mono Q1.out.size); have R2 : Hid _ := h2; clear h2) | (go_at_call 16; refine (EX.out _).mono ?_; rintro e w3 ⟨ao3, cap3, rfl, h3⟩; have Q3 : Hid (Below W0.heap.size W0 w3) := Q2.out.trans (h3.bel.mono Q2.out.size); have R3 : Hid _ := h3; clear h3) | (go_at_call 17; refine (ES.out _).mono ?_; rintro e w4 ⟨ao4, cap4, rfl, h4⟩; have Q4 : Hid (Below W0.heap.size W0 w4) := Q3.out.trans (h4.bel.mono Q3.out.size); have R4 : Hid _ := h4; clear h4))
  clear y0 y1 y2 y3 y4 EG EF EX ES
  have L3 : Below w3.heap.size w3 w4 := R4.out.bel
  have L2 : Below w2.heap.size w2 w4 := R3.out.bel.trans (L3.mono R3.out.bel.size)
  have L1 : Below w1.heap.size w1 w4 := R2.out.bel.trans (L2.mono R2.out.bel.size)
  have b01 : W0.heap.size ≤ w1.heap.size := Q1.out.size
  have b12 : w1.heap.size ≤ w2.heap.size := R2.out.bel.size
  have b23 : w2.heap.size ≤ w3.heap.size := R3.out.bel.size
  have b34 : w3.heap.size ≤ w4.heap.size := R4.out.bel.size
  have ra : RowAt w4 W0.heap.size w1.heap.size ao1 18 cap1 (gL f0) := (R1.out.at (gL_len f0)).later L1
  have rb : RowAt w4 w1.heap.size w2.heap.size ao2 4 cap2 (bigTo f 4 4) := (R2.out.at (bigTo_length f 4 4)).later L2
  have rc : RowAt w4 w2.heap.size w3.heap.size ao3 (10 + zn z) cap3 (XL xs xf z) := (R3.out.at (XL_len xs xf z)).later L3
  have rd : RowAt w4 w3.heap.size w4.heap.size ao4 16 cap4 (sL sc sk) := R4.out.at (sL_len sc sk)
  obtain ⟨B1, hB1⟩ : ∃ B, w1.heap.size = B := ⟨_, rfl⟩
  obtain ⟨B2, hB2⟩ : ∃ B, w2.heap.size = B := ⟨_, rfl⟩
  obtain ⟨B3, hB3⟩ : ∃ B, w3.heap.size = B := ⟨_, rfl⟩
  obtain ⟨B4, hB4⟩ : ∃ B, w4.heap.size = B := ⟨_, rfl⟩
  rw [hB1] at ra rb b01 b12
  rw [hB2] at rb rc b12 b23
  rw [hB3] at rc rd b23 b34
  rw [hB4] at rd b34
  have Z4 : Hid (B4 ≤ w4.heap.size) := Nat.le_of_eq hB4.symm
  have Ra4 : Hid _ := ra
  have Rb4 : Hid _ := rb
  have Rc4 : Hid _ := rc
  have Rd4 : Hid _ := rd
  clear ra rb rc rd L1 L2 L3 Q1 Q2 Q3 R1 R2 R3 R4 hB1 hB2 hB3 hB4
  obtain ⟨⟨⟨y0, y1⟩, y2⟩, y3, y4⟩ := HC.out _ Q4.out
  go_wp2_with fail
  refine (DG.out _).mono ?_
  rintro e u5 ⟨aq, cq, rfl, hr⟩
  have hb := hr.bel
  have HR : Hid (BRow u5 aq cq (gL f0)) := hr.brow (by rw [gL_len f0]; omega)
  clear hr
  clear y0 y1 y2 y3 y4
  have Q10 : Hid (Below W0.heap.size W0 u5) := Q4.out.trans (hb.mono Q4.out.size)
  have Z10 : Hid (B4 ≤ u5.heap.size) := Nat.le_trans Z4.out hb.size
  have Ra10 : Hid (RowAt u5 (W0.heap.size) (B1) (ao1) (18) (cap1) (gL f0)) := Ra4.out.later hb
  have Rb10 : Hid (RowAt u5 (B1) (B2) (ao2) (4) (cap2) (bigTo f 4 4)) := Rb4.out.later hb
  have Rc10 : Hid (RowAt u5 (B2) (B3) (ao3) ((10 + zn z)) (cap3) (XL xs xf z)) := Rc4.out.later hb
  have Rd10 : Hid (RowAt u5 (B3) (B4) (ao4) (16) (cap4) (sL sc sk)) := Rd4.out.later hb
  clear Q4 Z4 Ra4 Rb4 Rc4 Rd4
  clear hb
  go_wp2_with fail
  refine (same8_true ao1 aq cap1 cq 18 (gL f0) _ (Ra10.out.brow (by omega)) HR.out (gL_len f0)).mono ?_
  rintro e u6 ⟨rfl, hb⟩
  clear HR
  have Q11 : Hid (Below W0.heap.size W0 u6) := Q10.out.trans (hb.mono Q10.out.size)
  have Z11 : Hid (B4 ≤ u6.heap.size) := Nat.le_trans Z10.out hb.size
  have Ra11 : Hid (RowAt u6 (W0.heap.size) (B1) (ao1) (18) (cap1) (gL f0)) := Ra10.out.later hb
  have Rb11 : Hid (RowAt u6 (B1) (B2) (ao2) (4) (cap2) (bigTo f 4 4)) := Rb10.out.later hb
  have Rc11 : Hid (RowAt u6 (B2) (B3) (ao3) ((10 + zn z)) (cap3) (XL xs xf z)) := Rc10.out.later hb
  have Rd11 : Hid (RowAt u6 (B3) (B4) (ao4) (16) (cap4) (sL sc sk)) := Rd10.out.later hb
  clear Q10 Z10 Ra10 Rb10 Rc10 Rd10
  clear hb
  obtain ⟨⟨⟨y0, y1⟩, y2⟩, y3, y4⟩ := HC.out _ Q11.out
  go_wp2_with fail
  refine (DF.out _).mono ?_
  rintro e u7 ⟨aq, cq, rfl, hr⟩
  have hb := hr.bel
  have HR : Hid (BRow u7 aq cq (bigTo f 4 4)) := hr.brow (by rw [bigTo_length f 4 4]; omega)
  clear hr
  clear y0 y1 y2 y3 y4
  have Q12 : Hid (Below W0.heap.size W0 u7) := Q11.out.trans (hb.mono Q11.out.size)
  have Z12 : Hid (B4 ≤ u7.heap.size) := Nat.le_trans Z11.out hb.size
  have Ra12 : Hid (RowAt u7 (W0.heap.size) (B1) (ao1) (18) (cap1) (gL f0)) := Ra11.out.later hb
  have Rb12 : Hid (RowAt u7 (B1) (B2) (ao2) (4) (cap2) (bigTo f 4 4)) := Rb11.out.later hb
  have Rc12 : Hid (RowAt u7 (B2) (B3) (ao3) ((10 + zn z)) (cap3) (XL xs xf z)) := Rc11.out.later hb
  have Rd12 : Hid (RowAt u7 (B3) (B4) (ao4) (16) (cap4) (sL sc sk)) := Rd11.out.later hb
  clear Q11 Z11 Ra11 Rb11 Rc11 Rd11
  clear hb
  go_wp2_with fail
  refine (same8_true ao2 aq cap2 cq 4 (bigTo f 4 4) _ (Rb12.out.brow (by omega)) HR.out (bigTo_length f 4 4)).mono ?_
  rintro e u8 ⟨rfl, hb⟩
  clear HR
  have Q13 : Hid (Below W0.heap.size W0 u8) := Q12.out.trans (hb.mono Q12.out.size)
  have Z13 : Hid (B4 ≤ u8.heap.size) := Nat.le_trans Z12.out hb.size
  have Ra13 : Hid (RowAt u8 (W0.heap.size) (B1) (ao1) (18) (cap1) (gL f0)) := Ra12.out.later hb
  have Rb13 : Hid (RowAt u8 (B1) (B2) (ao2) (4) (cap2) (bigTo f 4 4)) := Rb12.out.later hb
  have Rc13 : Hid (RowAt u8 (B2) (B3) (ao3) ((10 + zn z)) (cap3) (XL xs xf z)) := Rc12.out.later hb
  have Rd13 : Hid (RowAt u8 (B3) (B4) (ao4) (16) (cap4) (sL sc sk)) := Rd12.out.later hb
  clear Q12 Z12 Ra12 Rb12 Rc12 Rd12
  clear hb
  obtain ⟨⟨⟨y0, y1⟩, y2⟩, y3, y4⟩ := HC.out _ Q13.out
  go_wp2_with fail
  refine (DX.out _).mono ?_
  rintro e u9 ⟨aq, cq, rfl, hr⟩
  have hb := hr.bel
  have HR : Hid (BRow u9 aq cq (XL xs xf z)) := hr.brow (by rw [XL_len xs xf z]; omega)
  clear hr
  clear y0 y1 y2 y3 y4
  have Q14 : Hid (Below W0.heap.size W0 u9) := Q13.out.trans (hb.mono Q13.out.size)
  have Z14 : Hid (B4 ≤ u9.heap.size) := Nat.le_trans Z13.out hb.size
  have Ra14 : Hid (RowAt u9 (W0.heap.size) (B1) (ao1) (18) (cap1) (gL f0)) := Ra13.out.later hb
  have Rb14 : Hid (RowAt u9 (B1) (B2) (ao2) (4) (cap2) (bigTo f 4 4)) := Rb13.out.later hb
  have Rc14 : Hid (RowAt u9 (B2) (B3) (ao3) ((10 + zn z)) (cap3) (XL xs xf z)) := Rc13.out.later hb
  have Rd14 : Hid (RowAt u9 (B3) (B4) (ao4) (16) (cap4) (sL sc sk)) := Rd13.out.later hb
  clear Q13 Z13 Ra13 Rb13 Rc13 Rd13
  clear hb
  go_wp2_with fail
  refine (same8_true ao3 aq cap3 cq (10 + zn z) (XL xs xf z) _ (Rc14.out.brow (by omega)) HR.out (XL_len xs xf z)).mono ?_
  rintro e u10 ⟨rfl, hb⟩
  clear HR
  have Q15 : Hid (Below W0.heap.size W0 u10) := Q14.out.trans (hb.mono Q14.out.size)
  have Z15 : Hid (B4 ≤ u10.heap.size) := Nat.le_trans Z14.out hb.size
  have Ra15 : Hid (RowAt u10 (W0.heap.size) (B1) (ao1) (18) (cap1) (gL f0)) := Ra14.out.later hb
  have Rb15 : Hid (RowAt u10 (B1) (B2) (ao2) (4) (cap2) (bigTo f 4 4)) := Rb14.out.later hb
  have Rc15 : Hid (RowAt u10 (B2) (B3) (ao3) ((10 + zn z)) (cap3) (XL xs xf z)) := Rc14.out.later hb
  have Rd15 : Hid (RowAt u10 (B3) (B4) (ao4) (16) (cap4) (sL sc sk)) := Rd14.out.later hb
  clear Q14 Z14 Ra14 Rb14 Rc14 Rd14
  clear hb
  obtain ⟨⟨⟨y0, y1⟩, y2⟩, y3, y4⟩ := HC.out _ Q15.out
  go_wp2_with fail
  refine (DS.out _).mono ?_
  rintro e u11 ⟨aq, cq, rfl, hr⟩
  have hb := hr.bel
  have HR : Hid (BRow u11 aq cq (sL sc sk)) := hr.brow (by rw [sL_len sc sk]; omega)
  clear hr
  clear y0 y1 y2 y3 y4
  have Q16 : Hid (Below W0.heap.size W0 u11) := Q15.out.trans (hb.mono Q15.out.size)
  have Z16 : Hid (B4 ≤ u11.heap.size) := Nat.le_trans Z15.out hb.size
  have Ra16 : Hid (RowAt u11 (W0.heap.size) (B1) (ao1) (18) (cap1) (gL f0)) := Ra15.out.later hb
  have Rb16 : Hid (RowAt u11 (B1) (B2) (ao2) (4) (cap2) (bigTo f 4 4)) := Rb15.out.later hb
  have Rc16 : Hid (RowAt u11 (B2) (B3) (ao3) ((10 + zn z)) (cap3) (XL xs xf z)) := Rc15.out.later hb
  have Rd16 : Hid (RowAt u11 (B3) (B4) (ao4) (16) (cap4) (sL sc sk)) := Rd15.out.later hb
  clear Q15 Z15 Ra15 Rb15 Rc15 Rd15
  clear hb
  go_wp2_with fail
  refine (same8_true ao4 aq cap4 cq 16 (sL sc sk) _ (Rd16.out.brow (by omega)) HR.out (sL_len sc sk)).mono ?_
  rintro e u12 ⟨rfl, hb⟩
  clear HR
  have Q17 : Hid (Below W0.heap.size W0 u12) := Q16.out.trans (hb.mono Q16.out.size)
  have Z17 : Hid (B4 ≤ u12.heap.size) := Nat.le_trans Z16.out hb.size
  have Ra17 : Hid (RowAt u12 (W0.heap.size) (B1) (ao1) (18) (cap1) (gL f0)) := Ra16.out.later hb
  have Rb17 : Hid (RowAt u12 (B1) (B2) (ao2) (4) (cap2) (bigTo f 4 4)) := Rb16.out.later hb
  have Rc17 : Hid (RowAt u12 (B2) (B3) (ao3) ((10 + zn z)) (cap3) (XL xs xf z)) := Rc16.out.later hb
  have Rd17 : Hid (RowAt u12 (B3) (B4) (ao4) (16) (cap4) (sL sc sk)) := Rd16.out.later hb
  clear Q16 Z16 Ra16 Rb16 Rc16 Rd16
  clear hb
  have hw : Below w.heap.size w _ := HQ0.out.trans (Q17.out.mono HQ0.out.size)
  have hlo : W0.heap.size ≤ _ := Nat.le_trans (by omega : W0.heap.size ≤ B4) Z17.out
  go_wp2_with (at_builtin; refine wpList_append_two _ rfl (.tmp 66) (.tmp 67) 37 rfl (W0.heap.size) 5 i0 (.int .u8 0) 1 Tryd.underlying37 hi hz0 hz1 hz2 rfl (.slice ao1 18 cap1) 18 ((gL f0).map bv) rfl Ra17.out.own ao nm cap (m.map bv) rfl (fun e => by have := HM.out.nil' e; rw [HNm.out] at this; exact this) (by rw [List.length_map]; exact HNm.out) (HM.out.later hw).news (bv_one m) (by unfold maxLen; omega) (by omega) hlo ?_)
  intro v9 u13 ho hg hf9
  obtain ⟨aq, cq, rfl⟩ := owns_form ho
  have hga : ∀ g, (Value.slice ao1 18 cap1).ownBlock = some g → W0.heap.size ≤ g ∧ g < B1 := fun g h => ⟨(owns_lt Ra17.out.own g h).2, Ra17.out.hi g h⟩
  have hlt9 := Ra17.out.lt
  have Q18 : Hid (Below W0.heap.size W0 u13) := Q17.out.grown hg Q17.out.size (fun g h => by have := hga g h; omega)
  have Z18 : Hid (B4 ≤ u13.heap.size) := Nat.le_trans Z17.out hg.size
  have Rb18 : Hid (RowAt u13 (B1) (B2) (ao2) (4) (cap2) (bigTo f 4 4)) := Rb17.out.grown hg (fun g h => .inl (by have := hga g h; omega))
  have Rc18 : Hid (RowAt u13 (B2) (B3) (ao3) ((10 + zn z)) (cap3) (XL xs xf z)) := Rc17.out.grown hg (fun g h => .inl (by have := hga g h; omega))
  have Rd18 : Hid (RowAt u13 (B3) (B4) (ao4) (16) (cap4) (sL sc sk)) := Rd17.out.grown hg (fun g h => .inl (by have := hga g h; omega))
  have hc : CRow u13 aq cq (gL f0 ++ m) := crow_of (by rw [List.map_append]; exact ho) (app_lt hlt9 HM.out.lt) (by rw [List.length_append, gL_len f0, HNm.out]) (by omega)
  obtain ⟨b9, o9, rfl⟩ := hc.some (by rw [List.length_append, gL_len f0]; omega)
  have HDc : Hid _ := decGreeting b9 o9 cq (18 + nm) f0 m _ hc (show (gL f0 ++ m).length = 18 + nm by rw [List.length_append, gL_len f0, HNm.out]) HP.out.1
  clear Q17 Z17 Ra17 Rb17 Rc17 Rd17 hw hlo ho hg hf9 hga hc hlt9
  go_wp2_with fail
  refine Calls.mono HDc.out ?_
  rintro e u14 ⟨rfl, hb⟩
  clear HDc
  have Q19 : Hid (Below W0.heap.size W0 u14) := Q18.out.trans (hb.mono Q18.out.size)
  have Z19 : Hid (B4 ≤ u14.heap.size) := Nat.le_trans Z18.out hb.size
  have Rb19 : Hid (RowAt u14 (B1) (B2) (ao2) (4) (cap2) (bigTo f 4 4)) := Rb18.out.later hb
  have Rc19 : Hid (RowAt u14 (B2) (B3) (ao3) ((10 + zn z)) (cap3) (XL xs xf z)) := Rc18.out.later hb
  have Rd19 : Hid (RowAt u14 (B3) (B4) (ao4) (16) (cap4) (sL sc sk)) := Rd18.out.later hb
  clear Q18 Z18 Rb18 Rc18 Rd18
  clear hb
  have hal : Below u14.heap.size u14 (u14.alloc (.cells #[.int .u16 (f0 : Int)] 31)) := (Below.refl _ _).alloc (Nat.le_refl _) _
  have lP : B4 ≤ u14.heap.size := Z19.out
  have Q20 : Hid (Below W0.heap.size W0 (u14.alloc (.cells #[.int .u16 (f0 : Int)] 31))) := Q19.out.trans (hal.mono Q19.out.size)
  have Z20 : Hid (B4 ≤ (u14.alloc (.cells #[.int .u16 (f0 : Int)] 31)).heap.size) := Nat.le_trans Z19.out hal.size
  have Rb20 : Hid (RowAt (u14.alloc (.cells #[.int .u16 (f0 : Int)] 31)) (B1) (B2) (ao2) (4) (cap2) (bigTo f 4 4)) := Rb19.out.later hal
  have Rc20 : Hid (RowAt (u14.alloc (.cells #[.int .u16 (f0 : Int)] 31)) (B2) (B3) (ao3) ((10 + zn z)) (cap3) (XL xs xf z)) := Rc19.out.later hal
  have Rd20 : Hid (RowAt (u14.alloc (.cells #[.int .u16 (f0 : Int)] 31)) (B3) (B4) (ao4) (16) (cap4) (sL sc sk)) := Rd19.out.later hal
  clear Q19 Z19 Rb19 Rc19 Rd19
  have P20 : Hid ((u14.alloc (.cells #[.int .u16 (f0 : Int)] 31)).heap[u14.heap.size]? = some (.cells #[.int .u16 (f0 : Int)] 31 (0, 0))) := heap_new u14 _
  clear hal
  have hw : Below w.heap.size w _ := HQ0.out.trans (Q20.out.mono HQ0.out.size)
  have hlo : B1 ≤ _ := Nat.le_trans (by omega : B1 ≤ B4) Z20.out
  go_wp2_with (at_builtin; refine wpList_append_two _ rfl (.tmp 74) (.tmp 75) 37 rfl (B1) 5 i0 (.int .u8 0) 1 Tryd.underlying37 hi hz0 hz1 hz2 rfl (.slice ao2 4 cap2) 4 ((bigTo f 4 4).map bv) rfl Rb20.out.own ao nm cap (m.map bv) rfl (fun e => by have := HM.out.nil' e; rw [HNm.out] at this; exact this) (by rw [List.length_map]; exact HNm.out) (HM.out.later hw).news (bv_one m) (by unfold maxLen; omega) (by omega) hlo ?_)
  intro v9 u15 ho hg hf9
  obtain ⟨aq, cq, rfl⟩ := owns_form ho
  have hga : ∀ g, (Value.slice ao2 4 cap2).ownBlock = some g → B1 ≤ g ∧ g < B2 := fun g h => ⟨(owns_lt Rb20.out.own g h).2, Rb20.out.hi g h⟩
  have hlt9 := Rb20.out.lt
  have Q21 : Hid (Below W0.heap.size W0 u15) := Q20.out.grown hg Q20.out.size (fun g h => by have := hga g h; omega)
  have Z21 : Hid (B4 ≤ u15.heap.size) := Nat.le_trans Z20.out hg.size
  have Rc21 : Hid (RowAt u15 (B2) (B3) (ao3) ((10 + zn z)) (cap3) (XL xs xf z)) := Rc20.out.grown hg (fun g h => .inl (by have := hga g h; omega))
  have Rd21 : Hid (RowAt u15 (B3) (B4) (ao4) (16) (cap4) (sL sc sk)) := Rd20.out.grown hg (fun g h => .inl (by have := hga g h; omega))
  have P21 : Hid (u15.heap[u14.heap.size]? = some (.cells #[.int .u16 (f0 : Int)] 31 (0, 0))) := (hg.block _ (block_lt P20.out) (fun e => by have := hga _ e.symm; omega)).trans P20.out
  have hc : CRow u15 aq cq (bigTo f 4 4 ++ m) := crow_of (by rw [List.map_append]; exact ho) (app_lt hlt9 HM.out.lt) (by rw [List.length_append, bigTo_length f 4 4, HNm.out]) (by omega)
  obtain ⟨b9, o9, rfl⟩ := hc.some (by rw [List.length_append, bigTo_length f 4 4]; omega)
  have HDc : Hid _ := decFlags b9 o9 cq (4 + nm) f m _ hc (show (bigTo f 4 4 ++ m).length = 4 + nm by rw [List.length_append, bigTo_length f 4 4, HNm.out]) HP.out.2.1
  clear Q20 Z20 Rb20 Rc20 Rd20 P20 hw hlo ho hg hf9 hga hc hlt9
  go_wp2_with fail
  refine Calls.mono HDc.out ?_
  rintro e u16 ⟨rfl, hb⟩
  clear HDc
  have Q22 : Hid (Below W0.heap.size W0 u16) := Q21.out.trans (hb.mono Q21.out.size)
  have Z22 : Hid (B4 ≤ u16.heap.size) := Nat.le_trans Z21.out hb.size
  have Rc22 : Hid (RowAt u16 (B2) (B3) (ao3) ((10 + zn z)) (cap3) (XL xs xf z)) := Rc21.out.later hb
  have Rd22 : Hid (RowAt u16 (B3) (B4) (ao4) (16) (cap4) (sL sc sk)) := Rd21.out.later hb
  have P22 : Hid (u16.heap[u14.heap.size]? = some (.cells #[.int .u16 (f0 : Int)] 31 (0, 0))) := (hb.block _ (block_lt P21.out)).trans P21.out
  clear Q21 Z21 Rc21 Rd21 P21
  clear hb
  have hw : Below w.heap.size w _ := HQ0.out.trans (Q22.out.mono HQ0.out.size)
  have hlo : B2 ≤ _ := Nat.le_trans (by omega : B2 ≤ B4) Z22.out
  go_wp2_with (at_builtin; refine wpList_append_two _ rfl (.tmp 82) (.tmp 83) 37 rfl (B2) 5 i0 (.int .u8 0) 1 Tryd.underlying37 hi hz0 hz1 hz2 rfl (.slice ao3 (10 + zn z) cap3) (10 + zn z) ((XL xs xf z).map bv) rfl Rc22.out.own ao nm cap (m.map bv) rfl (fun e => by have := HM.out.nil' e; rw [HNm.out] at this; exact this) (by rw [List.length_map]; exact HNm.out) (HM.out.later hw).news (bv_one m) (by unfold maxLen; omega) (by omega) hlo ?_)
  intro v9 u17 ho hg hf9
  obtain ⟨aq, cq, rfl⟩ := owns_form ho
  have hga : ∀ g, (Value.slice ao3 (10 + zn z) cap3).ownBlock = some g → B2 ≤ g ∧ g < B3 := fun g h => ⟨(owns_lt Rc22.out.own g h).2, Rc22.out.hi g h⟩
  have hlt9 := Rc22.out.lt
  have Q23 : Hid (Below W0.heap.size W0 u17) := Q22.out.grown hg Q22.out.size (fun g h => by have := hga g h; omega)
  have Z23 : Hid (B4 ≤ u17.heap.size) := Nat.le_trans Z22.out hg.size
  have Rd23 : Hid (RowAt u17 (B3) (B4) (ao4) (16) (cap4) (sL sc sk)) := Rd22.out.grown hg (fun g h => .inl (by have := hga g h; omega))
  have P23 : Hid (u17.heap[u14.heap.size]? = some (.cells #[.int .u16 (f0 : Int)] 31 (0, 0))) := (hg.block _ (block_lt P22.out) (fun e => by have := hga _ e.symm; omega)).trans P22.out
  have hc : CRow u17 aq cq (XL xs xf z ++ m) := crow_of (by rw [List.map_append]; exact ho) (app_lt hlt9 HM.out.lt) (by rw [List.length_append, XL_len xs xf z, HNm.out]) (by omega)
  obtain ⟨b9, o9, rfl⟩ := hc.some (by rw [List.length_append, XL_len xs xf z]; omega)
  have HDc : Hid _ := decExport b9 o9 cq (10 + zn z + nm) xs xf z m _ hc (show (XL xs xf z ++ m).length = (10 + zn z) + nm by rw [List.length_append, XL_len xs xf z, HNm.out]) HP.out.2.2.1 HP.out.2.2.2.1
  clear Q22 Z22 Rc22 Rd22 P22 hw hlo ho hg hf9 hga hc hlt9
  go_wp2_with fail
  refine Calls.mono HDc.out ?_
  rintro e u18 ⟨rfl, hb⟩
  clear HDc
  have Q24 : Hid (Below W0.heap.size W0 u18) := Q23.out.trans (hb.mono Q23.out.size)
  have Z24 : Hid (B4 ≤ u18.heap.size) := Nat.le_trans Z23.out hb.size
  have Rd24 : Hid (RowAt u18 (B3) (B4) (ao4) (16) (cap4) (sL sc sk)) := Rd23.out.later hb
  have P24 : Hid (u18.heap[u14.heap.size]? = some (.cells #[.int .u16 (f0 : Int)] 31 (0, 0))) := (hb.block _ (block_lt P23.out)).trans P23.out
  clear Q23 Z23 Rd23 P23
  clear hb
  have hal : Below u18.heap.size u18 (u18.alloc (.cells #[.int .u64 (xs : Int), .int .u16 (xf : Int)] 34)) := (Below.refl _ _).alloc (Nat.le_refl _) _
  have lX : B4 ≤ u18.heap.size := Z24.out
  have Q25 : Hid (Below W0.heap.size W0 (u18.alloc (.cells #[.int .u64 (xs : Int), .int .u16 (xf : Int)] 34))) := Q24.out.trans (hal.mono Q24.out.size)
  have Z25 : Hid (B4 ≤ (u18.alloc (.cells #[.int .u64 (xs : Int), .int .u16 (xf : Int)] 34)).heap.size) := Nat.le_trans Z24.out hal.size
  have Rd25 : Hid (RowAt (u18.alloc (.cells #[.int .u64 (xs : Int), .int .u16 (xf : Int)] 34)) (B3) (B4) (ao4) (16) (cap4) (sL sc sk)) := Rd24.out.later hal
  have P25 : Hid ((u18.alloc (.cells #[.int .u64 (xs : Int), .int .u16 (xf : Int)] 34)).heap[u14.heap.size]? = some (.cells #[.int .u16 (f0 : Int)] 31 (0, 0))) := (hal.block _ (block_lt P24.out)).trans P24.out
  clear Q24 Z24 Rd24 P24
  have X25 : Hid ((u18.alloc (.cells #[.int .u64 (xs : Int), .int .u16 (xf : Int)] 34)).heap[u18.heap.size]? = some (.cells #[.int .u64 (xs : Int), .int .u16 (xf : Int)] 34 (0, 0))) := heap_new u18 _
  clear hal
  have hw : Below w.heap.size w _ := HQ0.out.trans (Q25.out.mono HQ0.out.size)
  have hlo : B3 ≤ _ := Nat.le_trans (by omega : B3 ≤ B4) Z25.out
  go_wp2_with (at_builtin; refine wpList_append_two _ rfl (.tmp 91) (.tmp 92) 37 rfl (B3) 5 i0 (.int .u8 0) 1 Tryd.underlying37 hi hz0 hz1 hz2 rfl (.slice ao4 16 cap4) 16 ((sL sc sk).map bv) rfl Rd25.out.own ao nm cap (m.map bv) rfl (fun e => by have := HM.out.nil' e; rw [HNm.out] at this; exact this) (by rw [List.length_map]; exact HNm.out) (HM.out.later hw).news (bv_one m) (by unfold maxLen; omega) (by omega) hlo ?_)
  intro v9 u19 ho hg hf9
  obtain ⟨aq, cq, rfl⟩ := owns_form ho
  have hga : ∀ g, (Value.slice ao4 16 cap4).ownBlock = some g → B3 ≤ g ∧ g < B4 := fun g h => ⟨(owns_lt Rd25.out.own g h).2, Rd25.out.hi g h⟩
  have hlt9 := Rd25.out.lt
  have Q26 : Hid (Below W0.heap.size W0 u19) := Q25.out.grown hg Q25.out.size (fun g h => by have := hga g h; omega)
  have Z26 : Hid (B4 ≤ u19.heap.size) := Nat.le_trans Z25.out hg.size
  have P26 : Hid (u19.heap[u14.heap.size]? = some (.cells #[.int .u16 (f0 : Int)] 31 (0, 0))) := (hg.block _ (block_lt P25.out) (fun e => by have := hga _ e.symm; omega)).trans P25.out
  have X26 : Hid (u19.heap[u18.heap.size]? = some (.cells #[.int .u64 (xs : Int), .int .u16 (xf : Int)] 34 (0, 0))) := (hg.block _ (block_lt X25.out) (fun e => by have := hga _ e.symm; omega)).trans X25.out
  have hc : CRow u19 aq cq (sL sc sk ++ m) := crow_of (by rw [List.map_append]; exact ho) (app_lt hlt9 HM.out.lt) (by rw [List.length_append, sL_len sc sk, HNm.out]) (by omega)
  obtain ⟨b9, o9, rfl⟩ := hc.some (by rw [List.length_append, sL_len sc sk]; omega)
  have HDc : Hid _ := decSimple b9 o9 cq (16 + nm) sc sk m _ hc (show (sL sc sk ++ m).length = 16 + nm by rw [List.length_append, sL_len sc sk, HNm.out]) HP.out.2.2.2.2.1 HP.out.2.2.2.2.2
  clear Q25 Z25 Rd25 P25 X25 hw hlo ho hg hf9 hga hc hlt9
  go_wp2_with fail
  refine Calls.mono HDc.out ?_
  rintro e u20 ⟨rfl, hb⟩
  clear HDc
  have Q27 : Hid (Below W0.heap.size W0 u20) := Q26.out.trans (hb.mono Q26.out.size)
  have Z27 : Hid (B4 ≤ u20.heap.size) := Nat.le_trans Z26.out hb.size
  have P27 : Hid (u20.heap[u14.heap.size]? = some (.cells #[.int .u16 (f0 : Int)] 31 (0, 0))) := (hb.block _ (block_lt P26.out)).trans P26.out
  have X27 : Hid (u20.heap[u18.heap.size]? = some (.cells #[.int .u64 (xs : Int), .int .u16 (xf : Int)] 34 (0, 0))) := (hb.block _ (block_lt X26.out)).trans X26.out
  clear Q26 Z26 P26 X26
  clear hb
  have hal : Below u20.heap.size u20 (u20.alloc (.cells #[.int .u32 (sc : Int), .int .u64 (sk : Int)] 36)) := (Below.refl _ _).alloc (Nat.le_refl _) _
  have lS : B4 ≤ u20.heap.size := Z27.out
  have Q28 : Hid (Below W0.heap.size W0 (u20.alloc (.cells #[.int .u32 (sc : Int), .int .u64 (sk : Int)] 36))) := Q27.out.trans (hal.mono Q27.out.size)
  have Z28 : Hid (B4 ≤ (u20.alloc (.cells #[.int .u32 (sc : Int), .int .u64 (sk : Int)] 36)).heap.size) := Nat.le_trans Z27.out hal.size
  have P28 : Hid ((u20.alloc (.cells #[.int .u32 (sc : Int), .int .u64 (sk : Int)] 36)).heap[u14.heap.size]? = some (.cells #[.int .u16 (f0 : Int)] 31 (0, 0))) := (hal.block _ (block_lt P27.out)).trans P27.out
  have X28 : Hid ((u20.alloc (.cells #[.int .u32 (sc : Int), .int .u64 (sk : Int)] 36)).heap[u18.heap.size]? = some (.cells #[.int .u64 (xs : Int), .int .u16 (xf : Int)] 34 (0, 0))) := (hal.block _ (block_lt X27.out)).trans X27.out
  clear Q27 Z27 P27 X27
  have S28 : Hid ((u20.alloc (.cells #[.int .u32 (sc : Int), .int .u64 (sk : Int)] 36)).heap[u20.heap.size]? = some (.cells #[.int .u32 (sc : Int), .int .u64 (sk : Int)] 36 (0, 0))) := heap_new u20 _
  clear hal
  obtain ⟨⟨⟨y0, y1⟩, y2⟩, y3, y4⟩ := HC.out _ Q28.out
  go_wp2_with (first | (go_at_call 27; refine (HNum.out _ _).mono ?_; rintro e w9 ⟨rfl, rfl⟩))
  refine (DX.out _).mono ?_
  rintro e u21 ⟨aq, cq, rfl, hr⟩
  have hb := hr.bel
  clear hr
  clear y0 y1 y2 y3 y4
  have Q29 : Hid (Below W0.heap.size W0 u21) := Q28.out.trans (hb.mono Q28.out.size)
  have Z29 : Hid (B4 ≤ u21.heap.size) := Nat.le_trans Z28.out hb.size
  have P29 : Hid (u21.heap[u14.heap.size]? = some (.cells #[.int .u16 (f0 : Int)] 31 (0, 0))) := (hb.block _ (block_lt P28.out)).trans P28.out
  have X29 : Hid (u21.heap[u18.heap.size]? = some (.cells #[.int .u64 (xs : Int), .int .u16 (xf : Int)] 34 (0, 0))) := (hb.block _ (block_lt X28.out)).trans X28.out
  have S29 : Hid (u21.heap[u20.heap.size]? = some (.cells #[.int .u32 (sc : Int), .int .u64 (sk : Int)] 36 (0, 0))) := (hb.block _ (block_lt S28.out)).trans S28.out
  clear Q28 Z28 P28 X28 S28
  clear hb
  obtain ⟨⟨⟨y0, y1⟩, y2⟩, y3, y4⟩ := HC.out _ Q29.out
  have qP0 := blk_at P29.out 0
  simp at qP0
  have qX0 := blk_at X29.out 0
  simp at qX0
  have qX1 := blk_at X29.out 1
  simp at qX1
  have qS0 := blk_at S29.out 0
  simp at qS0
  have qS1 := blk_at S29.out 1
  simp at qS1
  have hw : Below w.heap.size w u21 := HQ0.out.trans (Q29.out.mono HQ0.out.size)
  have HW : Hid (Below w.heap.size w u21) := hw
  clear hw
  go_wp2_with fail
  refine (HAl.out _ (HTb.out.later HW.out)).mono ?_
  rintro e u22 ⟨rfl, hb⟩
  have HW2 : Hid (Below w.heap.size w u22) := HW.out.trans (hb.mono HW.out.size)
  clear hb HW
  go_wp2
  go_ret
  exact ⟨rfl, HW2.out⟩
end Go.Proofs.YtjhickfjagalfaaDoor
