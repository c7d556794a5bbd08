import Derived.Test.YtefgdhoapmikhaaDoorRtL
import Derived.Test.YtefgdhoapmikhaaDoorRqFa
import Derived.Test.YtefgdhoapmikhaaDoorRpE
namespace Go.Proofs.YtefgdhoapmikhaaDoor
open Go.RowKit
set_option linter.unusedVariables false
set_option linter.unusedSimpArgs false
set_option maxRecDepth 100000
theorem rowL_len (D : Pc → List Nat) (off len : Nat) : ∀ (P : List Pc) (s : Nat), pieB off len s P = true → (∀ p ∈ P, (D p).length = p.n) → s + (rowL D P).length = len
  | [], s, h, _ => by simp [pieB] at h; simp [rowL, h]
  | p :: P, s, h, hd => by
    simp only [pieB, Bool.and_eq_true, decide_eq_true_eq, pcB] at h
    obtain ⟨⟨⟨h1, h2⟩, h3⟩, h4, h5, h6⟩ := h
    have ih := rowL_len D off len P (s + p.ln) h6 (fun q hq => hd q (List.mem_cons_of_mem _ hq))
    have h7 := hd p (List.mem_cons_self ..)
    have h8 : (pcL D p).length = p.ln := by
      unfold pcL
      split
      · simp
      · rename_i hh; rw [h7, h2, if_neg hh]
    simp only [rowL, List.flatMap_cons, List.length_append, h8] at ih ⊢
    omega
theorem pie_pos {off len : Nat} : ∀ {P : List Pc} {s : Nat}, pieB off len s P = true → ∀ p ∈ P, 0 < p.ln ∧ (p.hole = false → p.n = p.ln) ∧ p.ln ≤ len
  | [], _, _, p, hp => by cases hp
  | q :: P, s, h, p, hp => by
    simp only [pieB, Bool.and_eq_true, decide_eq_true_eq, pcB] at h
    obtain ⟨⟨⟨h1, h2⟩, h3⟩, h4, h5, h6⟩ := h
    rcases List.mem_cons.1 hp with rfl | hp
    · exact ⟨h1, fun e => by rw [h2, e]; rfl, by omega⟩
    · exact pie_pos h6 p hp
/-- what is told of a read, chunk by chunk -/
def zT (df : Bool) (ck eo off len : Nat) (D : Pc → List Nat) (P : List Pc) : List Say := if len = 0 then [(0, 0, ck, eo, [])] else if df = true then [(0, 1, ck, eo, daL off (rowL D P))] else P.map (pcS ck eo D)
def telB (st ex df : Bool) (ck eo off len : Nat) (D : Pc → List Nat) (P : List Pc) : List Nat := if st = false ∧ ex = false then sL 0 ck ++ rowL D P else encS ex (doneS (zT df ck eo off len D P))
theorem pcS_len (ck eo : Nat) (D : Pc → List Nat) (p : Pc) (hd : (D p).length = p.n) (h : p.hole = false → p.n = p.ln) : (pcS ck eo D p).2.2.2.2.length ≤ p.ln + 12 := by
  unfold pcS
  simp only
  split
  · simp [hoL, bigTo_length]
  · rename_i hh; have := h (by simpa using hh); simp [daL, bigTo_length]; omega
theorem encP_le (ex : Bool) (ck eo off len : Nat) (D : Pc → List Nat) : ∀ (P : List Pc) (s : Nat), pieB off len s P = true → (∀ p ∈ P, (D p).length = p.n) → s + (encS ex (P.map (pcS ck eo D))).length ≤ len + P.length * 44
  | [], s, h, _ => by simp [pieB] at h; simp [encS, h]
  | p :: P, s, h, hd => by
    have hp := pie_pos h p (List.mem_cons_self ..)
    simp only [pieB, Bool.and_eq_true, decide_eq_true_eq, pcB] at h
    obtain ⟨⟨⟨h1, h2⟩, h3⟩, h4, h5, h6⟩ := h
    have ih := encP_le ex ck eo off len D P (s + p.ln) h6 (fun q hq => hd q (List.mem_cons_of_mem _ hq))
    have h7 := pcS_len ck eo D p (hd p (List.mem_cons_self ..)) hp.2.1
    have h8 := enS_len ex (pcS ck eo D p)
    simp only [List.map_cons, encS, List.flatMap_cons, List.length_append, List.length_cons] at ih ⊢
    rw [Nat.add_mul]
    omega
theorem doneS_memT : ∀ (S : List Say) (x : Say), x ∈ doneS S → ∃ y ∈ S, (x.1 = y.1 ∨ x.1 = 1) ∧ x.2 = y.2
  | [], x, h => by cases h
  | [y], x, h => by
    simp only [doneS, List.mem_singleton] at h
    exact ⟨y, by simp, by rw [h]; exact .inr rfl, by rw [h]⟩
  | y :: z :: t, x, h => by
    simp only [doneS, List.mem_cons] at h
    rcases h with h | h
    · exact ⟨y, by simp, by rw [h]; exact .inl rfl, by rw [h]⟩
    · obtain ⟨q, hq, h1⟩ := doneS_memT (z :: t) x (by simpa using h)
      exact ⟨q, List.mem_cons_of_mem _ hq, h1⟩
theorem doneS_lenT : ∀ (S : List Say), (doneS S).length = S.length
  | [] => rfl
  | [x] => rfl
  | x :: y :: t => by simp only [doneS, List.length_cons, doneS_lenT (y :: t)]
theorem enc_doneT (ex : Bool) : ∀ (S : List Say), (encS ex (doneS S)).length = (encS ex S).length
  | [] => rfl
  | [x] => by simp only [doneS, encS, List.flatMap_cons, List.flatMap_nil, List.append_nil]; unfold enS; split <;> simp [cL64, cL, bigTo_length]
  | x :: y :: t => by
    have := enc_doneT ex (y :: t)
    simp only [doneS, encS, List.flatMap_cons, List.length_append] at this ⊢
    omega
theorem zT_ok {ex df : Bool} {ck eo off len : Nat} {D : Pc → List Nat} {P : List Pc} (hck : ck < 18446744073709551616) (heo : eo < 18446744073709551616) (he0 : ex = false → eo = 0) (hlen : len ≤ 4294967280) (hp : pieB off len 0 P = true) (hd : ∀ p ∈ P, (D p).length = p.n) : ∀ z ∈ doneS (zT df ck eo off len D P), okS z ∧ z.2.2.2.2.length ≤ 4294967295 ∧ (ex = false → z.2.2.2.1 = 0) := fun z hz => by
  obtain ⟨y, hy, h1, h2⟩ := doneS_memT _ z hz
  have hy2 : y.1 = 0 ∧ y.2.1 < 65536 ∧ y.2.2.1 = ck ∧ y.2.2.2.1 = eo ∧ y.2.2.2.2.length ≤ 4294967295 := by
    unfold zT at hy
    by_cases e1 : len = 0
    · rw [if_pos e1] at hy
      simp only [List.mem_singleton] at hy
      subst hy; simp
    · rw [if_neg e1] at hy
      by_cases e2 : df = true
      · rw [if_pos e2] at hy
        simp only [List.mem_singleton] at hy
        subst hy
        have := rowL_len D off len P 0 hp hd
        refine ⟨rfl, (show 1 < 65536 by decide), rfl, rfl, ?_⟩
        simp [daL, bigTo_length]; omega
      · rw [if_neg e2] at hy
        obtain ⟨p, hpm, rfl⟩ := List.mem_map.1 hy
        have h3 := pie_pos hp p hpm
        have h4 := pcS_len ck eo D p (hd p hpm) h3.2.1
        refine ⟨rfl, ?_, rfl, rfl, by omega⟩
        simp only [pcS]; split <;> decide
  obtain ⟨q1, q2, q3, q4, q5⟩ := hy2
  have h5 : z.1 < 65536 := by
    rcases h1 with e | e
    · rw [e, q1]; decide
    · rw [e]; decide
  rw [okS, h2]
  exact ⟨⟨h5, q2, by rw [q3]; exact hck, by rw [q4]; exact heo, by omega⟩, q5, fun e => by rw [q4]; exact he0 e⟩
set_option maxHeartbeats 1000000 in
theorem bytes_tells (st ex df : Bool) (fl ck off len : Nat) (d : Value) (po : Option Addr) (n pc : Nat) (w : World) (P : List Pc) (D : Pc → List Nat) (h : PRow w po P) (HN : Hid (P.length = n)) (hp : pieB off len 0 P = true) (HD : Hid (∀ p ∈ P, (D p).length = p.n ∧ BRow w p.ao p.cap (D p))) (hck : ck < 18446744073709551616) (hoff : off < 18446744073709551616) (hlen : len ≤ 4294967280) (hfl : bits .and .u16 (fl : Int) 4 = if df = true then 4 else 0) (eo : Nat) (heo : eo = if ex = true then off else 0) :
    Calls Tryd.prog 22 #[.agg #[.int .i64 0, .bool st, .bool ex, .slice none 0 0], .agg #[.int .u16 (fl : Int), .int .u16 0, .int .u64 (ck : Int), .int .u64 (off : Int), .int .u64 (len : Int), d], .agg #[.int .u32 0, .bool false, .int .u64 0, .slice po n pc, .slice none 0 0]] w fun e w' => ∃ ao cap, e = .returned (.tuple #[.slice ao (telB st ex df ck eo off len D P).length cap, .int .i64 0]) ∧ Row w w' ao cap (telB st ex df ck eo off len D P) := by
  have hn : n ≤ 1048576 := HN.out ▸ h.len
  have hd : ∀ p ∈ P, (D p).length = p.n := fun p hp => (HD.out p hp).1
  have hF : ∀ W, Below w.heap.size w W → Calls Tryd.prog 10 #[.agg #[.int .i64 0, .bool st, .bool ex, .slice none 0 0], .agg #[.int .u16 (fl : Int), .int .u16 0, .int .u64 (ck : Int), .int .u64 (off : Int), .int .u64 (len : Int), d], .agg #[.int .u32 0, .bool false, .int .u64 0, .slice po n pc, .slice none 0 0]] W fun e w' => e = .returned (.int .i64 0) ∧ Below W.heap.size W w' := fun W hb => by
    have h9 := Fits_any 0 st ex none 0 0 fl 0 ck off len d 0 false 0 po pc P none 0 [] W (by decide) (by decide) (h.later hb) ⟨by simp, by simp, fun h => absurd rfl h⟩ hoff (by omega) (by decide) (by decide)
    rw [HN.out, show fitB12 st ex 0 0 off len 0 false 0 P [] = true by simp [fitB12, hp]] at h9
    exact h9
  have hrl := rowL_len D off len P 0 hp hd
  by_cases hs : st = false ∧ ex = false
  · have hB : telB st ex df ck eo off len D P = sL 0 ck ++ rowL D P := by unfold telB; rw [if_pos hs]
    rw [hB]
    refine bytes_sim 0 st ex none 0 0 fl 0 ck off len d 0 false 0 po n pc none 0 0 w (sL 0 ck ++ rowL D P) hF (by decide) (by simp [strB, hs.1, hs.2]) (fun W hb => ?_)
    refine sbytes_some fl 0 ck off len d 0 false 0 po n pc none 0 0 W (rowL D P) (by decide) hck (fun W' hb' => ?_) (by omega)
    have h9 := sdata_read fl 0 ck off len d 0 false 0 po pc none 0 0 P D W' ((h.later hb).later hb') hoff (by omega) hp (fun p hq => ⟨(HD.out p hq).1, ((HD.out p hq).2.later hb).later hb'⟩) rfl rfl
    rw [HN.out] at h9
    have hln : (rowL D P).length = len := by omega
    generalize rowL D P = RL at *
    rw [hln]
    exact h9
  · have hB : telB st ex df ck eo off len D P = encS ex (doneS (zT df ck eo off len D P)) := by unfold telB; rw [if_neg hs]
    rw [hB]
    have heoI : (eo : Int) = if ex = true then (off : Int) else 0 := by rw [heo]; split <;> rfl
    have heb : eo < 18446744073709551616 := by rw [heo]; split <;> omega
    have hok := zT_ok (ex := ex) (df := df) (ck := ck) (eo := eo) hck heb (fun e => by rw [heo, e]; rfl) hlen hp hd
    have hch : ∀ W, Below w.heap.size w W → Calls Tryd.prog 41 #[.agg #[.int .i64 0, .bool st, .bool ex, .slice none 0 0, .int .u16 (fl : Int), .int .u16 0, .int .u64 (ck : Int), .int .u64 (off : Int), .int .u64 (len : Int), d, .int .u32 0, .bool false, .int .u64 0, .slice po n pc, .slice none 0 0]] W fun e w' => ∃ g cap K, e = .returned (.slice (some ⟨g, 0, none⟩) K.length cap) ∧ Cks W w' (.slice (some ⟨g, 0, none⟩) K.length cap) K ∧ K.map Ck.say = doneS (zT df ck eo off len D P) ∧ Below W.heap.size W w' := fun W hb => by
      by_cases e1 : len = 0
      · have h9 := chunks_none 0 st ex none 0 0 fl 0 ck off len d 0 false 0 po n pc none 0 0 W eo heoI rfl rfl e1
        unfold zT; rw [if_pos e1]; exact h9
      · have hz : 0 < (zT df ck eo off len D P).length ∧ (zT df ck eo off len D P).length ≤ 1048576 := by
          unfold zT; rw [if_neg e1]
          split
          · simp
          · rw [List.length_map, HN.out]
            refine ⟨?_, hn⟩
            rcases Nat.eq_zero_or_pos n with h0 | h0
            · have hP0 : P = [] := List.eq_nil_of_length_eq_zero (by rw [HN.out]; exact h0)
              rw [hP0] at hp; simp [pieB] at hp; omega
            · exact h0
        refine chunks_read 0 st ex none 0 0 fl 0 ck off len d 0 false 0 po n pc none 0 0 W (zT df ck eo off len D P) hz.1 hz.2 rfl rfl (by omega) (fun W' hb' => ?_)
        have hPr := (h.later hb).later hb'
        by_cases e2 : df = true
        · rw [e2, if_pos rfl] at hfl
          have h9 := read_df 0 st ex none 0 0 fl 0 ck off len d 0 false 0 po n pc none 0 0 W' P D hPr HN hfl eo heoI hoff (by omega) (by omega) hp (fun p hq => ⟨(HD.out p hq).1, ((HD.out p hq).2.later hb).later hb'⟩) (rowL D P) rfl (by omega)
          unfold zT; rw [if_neg e1, if_pos e2]; exact h9
        · have e2' : df = false := by simpa using e2
          rw [e2'] at hfl
          obtain ⟨b, po', rfl, _⟩ := hPr.at_ (fun h0 => by rw [h0] at hp; simp [pieB] at hp; omega)
          have h9 := read_some 0 st ex none 0 0 fl 0 ck off len d 0 false 0 b po' n pc none 0 0 W' P D hPr HN (by simpa using hfl) eo heoI (fun p hq => ⟨(HD.out p hq).1, ((HD.out p hq).2.later hb).later hb'⟩) (fun p hq hh => by have h3 := pie_pos hp p hq; have h4 := h3.2.1 hh; omega)
          unfold zT; rw [if_neg e1, if_neg e2]; exact h9
    have htot : (encS ex (doneS (zT df ck eo off len D P))).length ≤ 70368744177664 := by
      rw [enc_doneT]
      unfold zT
      by_cases e1 : len = 0
      · rw [if_pos e1]; simp only [encS, List.flatMap_cons, List.flatMap_nil, List.append_nil]
        have h9 := enS_len ex (0, 0, ck, eo, [])
        simp only [List.length_nil] at h9
        omega
      · rw [if_neg e1]
        by_cases e2 : df = true
        · rw [if_pos e2]; simp only [encS, List.flatMap_cons, List.flatMap_nil, List.append_nil]
          have h9 := enS_len ex (0, 1, ck, eo, daL off (rowL D P))
          have h10 : (daL off (rowL D P)).length = 8 + (rowL D P).length := by simp [daL, bigTo_length]
          simp only at h9
          omega
        · rw [if_neg e2]
          have := encP_le ex ck eo off len D P 0 hp hd
          have := HN.out
          omega
    have hzl : (zT df ck eo off len D P).length ≤ 1048576 := by
      unfold zT
      split
      · simp
      · split
        · simp
        · rw [List.length_map, HN.out]; exact hn
    have hsb : ∀ W, Below w.heap.size w W → _ := fun W hb => strbytes 0 st ex none 0 0 fl 0 ck off len d 0 false 0 po n pc none 0 0 W (doneS (zT df ck eo off len D P)) (by rw [doneS_lenT]; exact hzl) (fun z hz => (hok z hz).1) htot (fun W' hb' => hch W' (hb.trans (hb'.mono hb.size)))
    exact bytes_str 0 st ex none 0 0 fl 0 ck off len d 0 false 0 po n pc none 0 0 w (encS ex (doneS (zT df ck eo off len D P))) hF (by decide) (by simp only [strB]; cases st <;> cases ex <;> simp_all) hsb
end Go.Proofs.YtefgdhoapmikhaaDoor
