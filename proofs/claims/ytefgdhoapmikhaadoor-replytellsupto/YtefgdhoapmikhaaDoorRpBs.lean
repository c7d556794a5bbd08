import Derived.Test.YtefgdhoapmikhaaDoorRpQ
import Derived.Test.YtefgdhoapmikhaaDoorJS
namespace Go.Proofs.YtefgdhoapmikhaaDoor
open Go.RowKit
set_option linter.unusedVariables false
set_option linter.unusedSimpArgs false
set_option maxRecDepth 100000
def enS (ex : Bool) (x : Say) : List Nat := if ex = true then cL64 x.1 x.2.1 x.2.2.1 x.2.2.2.1 x.2.2.2.2 else cL x.1 x.2.1 x.2.2.1 x.2.2.2.2
def encS (ex : Bool) (S : List Say) : List Nat := S.flatMap (enS ex)
def okS (x : Say) : Prop := x.1 < 65536 ∧ x.2.1 < 65536 ∧ x.2.2.1 < 18446744073709551616 ∧ x.2.2.2.1 < 18446744073709551616 ∧ x.2.2.2.2.length ≤ 1099511627776
theorem enS_len (ex : Bool) (x : Say) : (enS ex x).length ≤ x.2.2.2.2.length + 32 := by
  unfold enS; split <;> simp [cL64, cL, bigTo_length, nL_length] <;> omega
theorem enS_lt (ex : Bool) (x : Say) (h : ∀ y ∈ x.2.2.2.2, y < 256) : ∀ y ∈ enS ex x, y < 256 := by
  intro y hy
  have hn : ∀ (n : Nat) (wd : Bool), ∀ z ∈ nL n wd, z < 256 := fun n wd z hz => by
    unfold nL at hz; split at hz
    · exact bigTo_lt _ _ _ z hz
    · exact bigTo_lt _ _ _ z hz
  unfold enS at hy
  split at hy <;> simp only [cL64, cL, List.mem_append, List.not_mem_nil, false_or] at hy
  · rcases hy with (((((hy | hy) | hy) | hy) | hy) | hy) | hy
    · exact bigTo_lt _ _ _ y hy
    · exact bigTo_lt _ _ _ y hy
    · exact bigTo_lt _ _ _ y hy
    · exact bigTo_lt _ _ _ y hy
    · exact bigTo_lt _ _ _ y hy
    · exact hn _ _ y hy
    · exact h y hy
  · rcases hy with ((((hy | hy) | hy) | hy) | hy) | hy
    · exact bigTo_lt _ _ _ y hy
    · exact bigTo_lt _ _ _ y hy
    · exact bigTo_lt _ _ _ y hy
    · exact bigTo_lt _ _ _ y hy
    · exact hn _ _ y hy
    · exact h y hy
theorem flat_cell : ∀ (L : List Ck) (k j : Nat) (hk : k < L.length), j < 5 → (L.flatMap Ck.cells)[k * 5 + j]? = L[k].cells[j]?
  | c :: L, 0, j, hk, hj => by
    rw [List.flatMap_cons, List.getElem?_append_left (by rw [Ck.len]; omega)]; simp
  | c :: L, k + 1, j, hk, hj => by
    rw [List.flatMap_cons, List.getElem?_append_right (by rw [Ck.len]; omega), Ck.len, show (k + 1) * 5 + j - 5 = k * 5 + j by omega]
    exact flat_cell L k j (by simpa using hk) hj
theorem Cks.cell {w W : World} {g n cap : Nat} {L : List Ck} (h : Cks w W (.slice (some ⟨g, 0, none⟩) n cap) L) (k j : Nat) (hk : k < L.length) (hj : j < 5) : W.cell? ⟨g, k * 5 + j, none⟩ = L[k].cells[j]? := by
  rcases h.own.2 with ⟨h0, _⟩ | ⟨g', cap', cur, hv, hb, hc, h1, h2, h3, h4⟩
  · simp at h0
  · simp at hv
    obtain ⟨rfl, _⟩ := hv
    rw [← flat_cell L k j hk hj, ← h4, List.getElem?_take_of_lt (by omega), blk_at hc, Array.getElem?_toList]
set_option maxHeartbeats 2000000 in
theorem strbytes (ix : Int) (st ex : Bool) (co : Option Addr) (cn cc : Nat) (fl ty ck off len : Nat) (d : Value) (cd : Nat) (pl : Bool) (at_ : Nat) (po : Option Addr) (pn pc : Nat) (lo : Option Addr) (ln lc : Nat) (w : World) (S : List Say) (hS : S.length ≤ 1048576) (HOk : Hid (∀ x ∈ S, okS x)) (HTot : Hid ((encS ex S).length ≤ 70368744177664))
    (HC : Hid (∀ W, Below w.heap.size w W → Calls Tryd.prog 41 #[.agg #[.int .i64 ix, .bool st, .bool ex, .slice co cn cc, .int .u16 (fl : Int), .int .u16 (ty : Int), .int .u64 (ck : Int), .int .u64 (off : Int), .int .u64 (len : Int), d, .int .u32 (cd : Int), .bool pl, .int .u64 (at_ : Int), .slice po pn pc, .slice lo ln lc]] W fun e w' => ∃ g cap L, e = .returned (.slice (some ⟨g, 0, none⟩) L.length cap) ∧ Cks W w' (.slice (some ⟨g, 0, none⟩) L.length cap) L ∧ L.map Ck.say = S ∧ Below W.heap.size W w')) :
    Calls Tryd.prog 143 #[.agg #[.int .i64 ix, .bool st, .bool ex, .slice co cn cc, .int .u16 (fl : Int), .int .u16 (ty : Int), .int .u64 (ck : Int), .int .u64 (off : Int), .int .u64 (len : Int), d, .int .u32 (cd : Int), .bool pl, .int .u64 (at_ : Int), .slice po pn pc, .slice lo ln lc]] w fun e w' => ∃ ao cap, e = .returned (.slice ao (encS ex S).length cap) ∧ Row w w' ao cap (encS ex S) := by
  obtain ⟨i0, hi, hz0, hz1, hz2⟩ := info_parts Tryd.info5
  go_enter Tryd.func143, Tryd.ntmps143
  go_wp2_with fail
  have hx := mkb1 w #[.int .i64 ix, .bool st, .bool ex, .slice co cn cc, .int .u16 (fl : Int), .int .u16 (ty : Int), .int .u64 (ck : Int), .int .u64 (off : Int), .int .u64 (len : Int), d, .int .u32 (cd : Int), .bool pl, .int .u64 (at_ : Int), .slice po pn pc, .slice lo ln lc] 105
  generalize w.alloc (Obj.cells #[.int .i64 ix, .bool st, .bool ex, .slice co cn cc, .int .u16 (fl : Int), .int .u16 (ty : Int), .int .u64 (ck : Int), .int .u64 (off : Int), .int .u64 (len : Int), d, .int .u32 (cd : Int), .bool pl, .int .u64 (at_ : Int), .slice po pn pc, .slice lo ln lc] 105) = W0 at *
  refine (HC.out _ hx.bel).mono ?_
  rintro e W1 ⟨g, cap, L, rfl, hck, hsay, hbe⟩
  have hl : L.length = S.length := by rw [← hsay, List.length_map]
  have HX : Hid (Bx1 w W1 #[.int .i64 ix, .bool st, .bool ex, .slice co cn cc, .int .u16 (fl : Int), .int .u16 (ty : Int), .int .u64 (ck : Int), .int .u64 (off : Int), .int .u64 (len : Int), d, .int .u32 (cd : Int), .bool pl, .int .u64 (at_ : Int), .slice po pn pc, .slice lo ln lc] 105 ∧ Cks W0 W1 (.slice (some ⟨g, 0, none⟩) L.length cap) L ∧ L.map Ck.say = S) := ⟨hx.later hbe, hck, hsay⟩
  clear hck hsay hbe hx HC
  generalize hk : L.length = n at *
  have HK : Hid (L.length = n) := hk
  clear hk
  have hn : n ≤ 1048576 := by omega
  have HSn : Hid (S.length = n) := hl.symm
  clear hl hS
  go_wp2
  go_loopw [3, 9] (fun v i wr => ∃ (k : Nat) (vo : Option Addr) (m vc : Nat), k ≤ n ∧ i = .int .i64 (k : Int) ∧ v = .slice vo m vc ∧ m = (encS ex (S.take k)).length ∧ Below W1.heap.size W1 wr ∧ wr.ownsRow W1.heap.size 5 1 (.slice vo m vc) m ((encS ex (S.take k)).map bv)) (fun _ i _ => n - (intOf i).toNat)
  case atStart => exact ⟨0, none, 0, 0, Nat.zero_le _, rfl, rfl, rfl, Below.refl _ _, World.ownsRow_nil _ _ _ _⟩
  case round =>
    obtain ⟨k, vo, m, vc, hk, rfl, rfl, hm, hbw, how⟩ := hrel
    have HB : Hid (Below W1.heap.size W1 wr) := hbw
    have HM : Hid (m = (encS ex (S.take k)).length) := hm
    have HO : Hid (wr.ownsRow W1.heap.size 5 1 (.slice vo m vc) m ((encS ex (S.take k)).map bv)) := how
    clear hm how
    by_cases hlt : k < n
    · have hkl : k < L.length := by rw [HK.out]; exact hlt
      have hks : k < S.length := by rw [HSn.out]; exact hlt
      have hck := HX.out.2.1.later hbw
      have hbx := HX.out.1.later hbw
      have g0 := hck.cell k 0 hkl (by decide)
      have g1 := hck.cell k 1 hkl (by decide)
      have g2 := hck.cell k 2 hkl (by decide)
      have g3 := hck.cell k 3 hkl (by decide)
      have g4 := hck.cell k 4 hkl (by decide)
      have hse : S[k] = L[k].say := by have := HX.out.2.2; subst this; simp
      have htk : encS ex (S.take (k + 1)) = encS ex (S.take k) ++ enS ex S[k] := by unfold encS; rw [List.take_succ_eq_append_getElem hks, List.flatMap_append]; simp
      have hle : (encS ex (S.take (k + 1))).length ≤ 70368744177664 := by
        have : (encS ex S).length = (encS ex (S.take (k + 1))).length + (encS ex (S.drop (k + 1))).length := by
          rw [← List.length_append]; unfold encS; rw [← List.flatMap_append, List.take_append_drop]
        have := HTot.out; omega
      have hok := HOk.out _ (List.getElem_mem hks)
      rw [hse] at htk hok
      have hda := hck.dat _ (List.getElem_mem hkl)
      generalize L[k] = c at *
      simp only [Ck.cells] at g0 g1 g2 g3 g4
      simp at g0 g1 g2 g3 g4
      have hbr : BRow wr c.ao c.cap c.d := by
        obtain ⟨ao', cap', hv, hb⟩ := BRow.own hda.1 hda.2 (by have := hok.2.2.2.2; show c.d.length ≤ _; have h9 : c.d.length ≤ 1099511627776 := this; omega)
        simp only [Value.slice.injEq] at hv
        obtain ⟨rfl, _, rfl⟩ := hv
        exact hb
      have HEn : Hid (∀ W, Below wr.heap.size wr W → Calls Tryd.prog 144 #[.agg #[.int .u16 (c.fl : Int), .int .u16 (c.ty : Int), .int .u64 (c.ck : Int), .int .u64 (c.off : Int), .slice c.ao c.d.length c.cap], .bool ex] W fun e w' => ∃ ao cap, e = .returned (.slice ao (enS ex c.say).length cap) ∧ Row W w' ao cap (enS ex c.say)) := fun W hb => by
        cases ex
        · exact encChunk_false c.fl c.ty c.ck c.off c.ao c.cap c.d W hok.1 hok.2.1 hok.2.2.1 hok.2.2.2.1 (hbr.later hb) hok.2.2.2.2
        · exact encChunk_true c.fl c.ty c.ck c.off c.ao c.cap c.d W hok.1 hok.2.1 hok.2.2.1 hok.2.2.2.1 (hbr.later hb) hok.2.2.2.2
      have z2 : wr.cell? ⟨w.heap.size, 2, none⟩ = some (.bool ex) := by rw [blk_at hbx.a]; rfl
      have q2 : ∀ o, (wr.alloc o).cell? ⟨w.heap.size, 2, none⟩ = some (.bool ex) := fun o => cell_later (below1 wr o) z2
      have HT : Hid (encS ex (S.take (k + 1)) = encS ex (S.take k) ++ enS ex c.say) := htk
      have HL2 : Hid ((encS ex (S.take (k + 1))).length ≤ 70368744177664) := hle
      clear hck hbx hse htk hle hok hda hbr z2 hbw
      generalize hen : enS ex c.say = en at *
      clear hen
      have hW5 : Below W1.heap.size W1 (wr.alloc (Obj.cells #[.int .u16 (c.fl : Int), .int .u16 (c.ty : Int), .int .u64 (c.ck : Int), .int .u64 (c.off : Int), .slice c.ao c.d.length c.cap] 70)) ∧ (wr.alloc (Obj.cells #[.int .u16 (c.fl : Int), .int .u16 (c.ty : Int), .int .u64 (c.ck : Int), .int .u64 (c.off : Int), .slice c.ao c.d.length c.cap] 70)).ownsRow W1.heap.size 5 1 (.slice vo m vc) m ((encS ex (S.take k)).map bv) ∧ Below wr.heap.size wr (wr.alloc (Obj.cells #[.int .u16 (c.fl : Int), .int .u16 (c.ty : Int), .int .u64 (c.ck : Int), .int .u64 (c.off : Int), .slice c.ao c.d.length c.cap] 70)) := ⟨HB.out.alloc HB.out.size _, owns_same HO.out (fun g hg => (below1 wr _).block g (owns_lt HO.out g hg).1), below1 wr _⟩
      go_wp2_with fail
      generalize wr.alloc (Obj.cells #[.int .u16 (c.fl : Int), .int .u16 (c.ty : Int), .int .u64 (c.ck : Int), .int .u64 (c.off : Int), .slice c.ao c.d.length c.cap] 70) = W5 at *
      refine (HEn.out _ hW5.2.2).mono ?_
      rintro e W6 ⟨ao2, cap2, rfl, hr⟩
      have hen2 : en.length ≤ 70368744177664 := by have := HL2.out; rw [HT.out, List.length_append] at this; omega
      have H6 : Hid (Below W1.heap.size W1 W6 ∧ W6.ownsRow W1.heap.size 5 1 (.slice vo m vc) m ((encS ex (S.take k)).map bv) ∧ BRow W6 ao2 cap2 en) := ⟨hW5.1.trans (hr.bel.mono hW5.1.size), owns_same hW5.2.1 (fun g hg => hr.bel.block g (owns_lt hW5.2.1 g hg).1), hr.brow (by omega)⟩
      have hmn : m + en.length ≤ 70368744177664 := by have := HL2.out; rw [HT.out, List.length_append, ← HM.out] at this; exact this
      clear hr hW5 HEn g0 g1 g2 g3 g4 q2 HO
      go_wp2_with (at_builtin; refine wpList_append_two _ rfl _ _ 27 rfl W1.heap.size 5 i0 (.int .u8 0) 1 Tryd.underlying27 hi hz0 hz1 hz2 rfl (.slice vo m vc) m ((encS ex (S.take k)).map bv) rfl H6.out.2.1 ao2 en.length cap2 (en.map bv) rfl H6.out.2.2.nil' (by simp) H6.out.2.2.news (bv_one en) (by unfold maxLen; omega) (by omega) H6.out.1.size ?_)
      intro v7 W7 ho7 hg7 _
      obtain ⟨ao7, cap7, hv7⟩ := owns_form ho7
      subst hv7
      have H7 : Hid (Below W1.heap.size W1 W7 ∧ W7.ownsRow W1.heap.size 5 1 (.slice ao7 (m + en.length) cap7) (m + en.length) ((encS ex (S.take (k + 1))).map bv)) := ⟨H6.out.1.grown hg7 H6.out.1.size (fun j hj => (owns_lt H6.out.2.1 j hj).2), by rw [HT.out, List.map_append]; exact ho7⟩
      have HM7 : Hid (m + en.length = (encS ex (S.take (k + 1))).length) := by show _ = _; rw [HT.out, List.length_append, ← HM.out]
      clear ho7 hg7 H6
      go_wp2
      go_roundw
      case rel => exact ⟨k + 1, ao7, m + en.length, cap7, by omega, by go_num, rfl, HM7.out, H7.out.1, H7.out.2⟩
      case measure => simp [intOf]; omega
    · have HT : Hid (S.take k = S) := List.take_of_length_le (by rw [HSn.out]; omega)
      clear hbw
      go_wp2
      go_ret
      have hm := HM.out
      have ho := HO.out
      rw [HT.out] at hm ho
      subst hm
      exact ⟨vo, vc, rfl, owns_mono ho HX.out.1.bel.size, (fun x hx => by
        obtain ⟨y, hy, hx⟩ := List.mem_flatMap.1 hx
        have hyS := hy
        rw [← HX.out.2.2] at hy
        obtain ⟨c, hc, rfl⟩ := List.mem_map.1 hy
        exact enS_lt ex c.say (HX.out.2.1.dat c hc).2 x hx), (HX.out.1.later HB.out).bel⟩
end Go.Proofs.YtefgdhoapmikhaaDoor
