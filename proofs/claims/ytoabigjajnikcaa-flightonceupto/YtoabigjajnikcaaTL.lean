import Derived.Test.YtoabigjajnikcaaTK
namespace Go.Proofs.Ytoabigjajnikcaa
open Go.RowKit Go.Maps
attribute [local go_sem] Oper.semAt_some
set_option linter.unusedVariables false
set_option linter.unusedSimpArgs false
set_option maxRecDepth 100000

/-- the document's table in memory: its block, the row of its entries, their bytes in the blocks G -/
structure RR (w : World) (G : Nat → Prop) (p : Nat) (v : Value) (V : Int → Value) (S : St) : Prop where
  lt : ∀ g, G g → g < w.heap.size
  np : ¬ G p
  nv : ∀ g, v.ownBlock = some g → ¬ G g
  blk : w.heap[p]? = some (.cells #[.int .i64 S.most, .int .i64 S.last, v] TRt (0, 0))
  row : w.ownsRow 0 TEn 9 v S.L.length (S.L.flatMap fun e => vcl (V e.id))
  pv : ∀ e ∈ S.L, PV w G (V e.id) e
  ok : SOk S
def fpR (p : Nat) (v : Value) (G : Nat → Prop) (g : Nat) : Prop := g = p ∨ v.ownBlock = some g ∨ G g
section
variable {w : World} {G : Nat → Prop} {p : Nat} {v : Value} {V : Int → Value} {S : St}
theorem row_lt {w : World} {B T size n : Nat} {v : Value} {xs : List Value} (h : w.ownsRow B T size v n xs) : ∀ g, v.ownBlock = some g → g < w.heap.size ∧ B ≤ g ∧ ∃ cs, w.heap[g]? = some (.cells cs T (0, 0)) := by
  intro g hg
  rcases h.2 with ⟨rfl, _⟩ | ⟨g', cap, cur, rfl, hb, hh, _⟩
  · simp [Value.ownBlock] at hg
  · simp [Value.ownBlock] at hg; subst hg
    exact ⟨block_lt hh, hb, cur, hh⟩
theorem row_same {w w' : World} {B T size n : Nat} {v : Value} {xs : List Value} (h : w.ownsRow B T size v n xs) (hb : ∀ g, v.ownBlock = some g → w'.heap[g]? = w.heap[g]?) : w'.ownsRow B T size v n xs := by
  refine ⟨h.1, ?_⟩
  rcases h.2 with hz | ⟨g, cap, cur, rfl, hB, hh, hr⟩
  · exact .inl hz
  · exact .inr ⟨g, cap, cur, rfl, hB, (hb g rfl).trans hh, hr⟩
theorem RR.ltp (h : RR w G p v V S) : p < w.heap.size := block_lt h.blk
theorem RR.ne (h : RR w G p v V S) : v.ownBlock ≠ some p := fun e => by
  obtain ⟨_, _, cs, hc⟩ := row_lt h.row p e
  rw [h.blk] at hc
  simp [TRt, TEn] at hc
theorem RR.keep {w' : World} {X : Nat → Prop} (h : RR w G p v V S) (hk : KeptIn X w w') (hd : ∀ g, fpR p v G g → ¬ X g) : RR w' G p v V S :=
  ⟨fun g hg => Nat.lt_of_lt_of_le (h.lt g hg) hk.size, h.np, h.nv, (hk.block p h.ltp (hd _ (.inl rfl))).trans h.blk, row_same h.row (fun g hg => hk.block g (row_lt h.row g hg).1 (hd g (.inr (.inl hg)))), fun e he => (h.pv e he).keep hk h.lt (fun g hg => hd g (.inr (.inr hg))), h.ok⟩
theorem RR.later {w' : World} (h : RR w G p v V S) (hb : Below w.heap.size w w') : RR w' G p v V S := h.keep (X := fun _ => False) (KeptIn.ofBelow hb) (fun _ _ h => h)
theorem RR.c (h : RR w G p v V S) (j : Nat) : w.cell? ⟨p, j, none⟩ = (#[.int .i64 S.most, .int .i64 S.last, v] : Array Value)[j]? := blk_at h.blk j
theorem RR.fz (h : RR w G p v V S) (j : Nat) : w.frozen? ⟨p, j, none⟩ = false := blk_free h.blk j
theorem RR.drewN (h : RR w G p v V S) (q : Nat) : RR (w.drewN q) G p v V S := h.later (below_drewN w q)
/-- what a call of the document's leaves -/
structure RAct (w w' : World) (G G' : Nat → Prop) (p : Nat) (v v' : Value) (V' : Int → Value) (S' : St) : Prop where
  rr : RR w' G' p v' V' S'
  kept : KeptIn (fun g => g = p ∨ v.ownBlock = some g) w w'
  new : ∀ g, fpR p v' G' g → fpR p v G g ∨ w.heap.size ≤ g
theorem rnew_bad (n : Int) (h : n < 1 ∨ 64 < n) : Calls Try.prog 31 #[.int .i64 n] w fun r w' => r = .returned (.tuple #[.pointer none, .int .i64 130]) ∧ w' = w := by
  by_cases h1 : n < 1
  · go_enter Try.func31, Try.ntmps31
    go_wp2
    go_ret2
    exact ⟨rfl, rfl⟩
  · have h2 : 64 < n := by omega
    clear h
    go_enter Try.func31, Try.ntmps31
    go_wp2
    go_ret2
    exact ⟨rfl, rfl⟩
theorem rnew_any (w : World) (m : Nat) (h1 : 1 ≤ m) (h2 : m ≤ 64) : Calls Try.prog 31 #[.int .i64 m] w fun r w' => r = .returned (.tuple #[.pointer (some ⟨w.heap.size, 0, none⟩), .int .i64 0]) ∧ w' = w.alloc (.cells #[.int .i64 m, .int .i64 0, .slice none 0 0] TRt) := by
  have z1 : ¬ (m : Int) < 1 := by omega
  have z2 : ¬ (64 : Int) < m := by omega
  go_enter Try.func31, Try.ntmps31
  go_wp2
  go_ret2
  exact ⟨rfl, rfl⟩
theorem rr_new (w : World) (m : Nat) (h1 : 1 ≤ m) (h2 : m ≤ 64) : RR (w.alloc (.cells #[.int .i64 m, .int .i64 0, .slice none 0 0] TRt)) (fun _ => False) w.heap.size (.slice none 0 0) (fun _ => undef) (newS m) :=
  ⟨fun _ h => h.elim, fun h => h, fun _ _ h => h, heap_new w _, ⟨by simp [newS], .inl ⟨rfl, rfl⟩⟩, by simp [newS], newS_ok h1 h2⟩
end
/-- both tables, which share nothing, and nothing that lies below n0 -/
structure Pr (w : World) (n0 : Nat) (F G : Nat → Prop) (b bm p : Nat) (V : Int → Value) (v : Value) (U : Int → Value) (S : St) : Prop where
  t : RT w F b bm V S
  r : RR w G p v U S
  ap : ∀ g, fpT b bm F g → ¬ fpR p v G g
  lo : ∀ g, fpT b bm F g ∨ fpR p v G g → n0 ≤ g
  le : n0 ≤ w.heap.size
theorem made_bad (w : World) (n : Int) (h : n < 1 ∨ 64 < n) : Calls Try.prog 9 #[.int .i64 n] w fun r w' => r = .returned (.tuple #[.pointer none, .pointer none, .bool true]) ∧ w' = w := by
  have HA : Hid _ := new_bad (w := w) n h
  have HB : Hid _ := rnew_bad (w := w) n h
  clear h
  go_enter Try.func9, Try.ntmps9
  go_wp2_with fail
  refine Calls.mono HA.out ?_
  rintro r w1 ⟨rfl, hw⟩
  rw [hw]; clear hw HA
  go_wp2_with fail
  refine Calls.mono HB.out ?_
  rintro r w2 ⟨rfl, hw⟩
  rw [hw]; clear hw HB
  go_wp2
  exact bodyPost_ret (by simp [results, Try.results9, go_sem]) rfl ⟨rfl, rfl⟩
set_option maxHeartbeats 1000000 in
theorem made_any (w : World) (m : Nat) (h1 : 1 ≤ m) (h2 : m ≤ 64) : Calls Try.prog 9 #[.int .i64 m] w fun r w' => ∃ b p, r = .returned (.tuple #[.pointer (some ⟨b, 0, none⟩), .pointer (some ⟨p, 0, none⟩), .bool true]) ∧ ∃ bm, Pr w' w.heap.size (fun _ => False) (fun _ => False) b bm p (fun _ => undef) (.slice none 0 0) (fun _ => undef) (newS m) ∧ Below w.heap.size w w' := by
  have HA : Hid _ := new_any w m h1 h2
  go_enter Try.func9, Try.ntmps9
  go_wp2_with fail
  refine Calls.mono HA.out ?_
  rintro r w1 ⟨b, rfl, bm, h, hb, hlb, hlm⟩
  have HB : Hid _ := rnew_any w1 m h1 h2
  have H : Hid _ := h
  have Hb : Hid _ := hb
  clear HA h hb
  go_wp2_with fail
  refine Calls.mono HB.out ?_
  rintro r w2 ⟨rfl, hw⟩
  rw [hw]; clear hw HB
  go_wp2
  have hlt1 := H.out.ltb
  have hlt2 := H.out.ltm
  have hsz := Hb.out.size
  refine bodyPost_ret (v := .tuple #[.pointer (some ⟨b, 0, none⟩), .pointer (some ⟨w1.heap.size, 0, none⟩), .bool true]) (by simp [results, Try.results9, go_sem]) rfl ?_
  refine ⟨b, w1.heap.size, rfl, bm, ⟨H.out.later (below1 w1 _), rr_new w1 m h1 h2, fun g hg hr => ?_, fun g hg => ?_, by rw [size1]; omega⟩, Hb.out.trans ((below1 w1 _).mono Hb.out.size)⟩
  · rcases hg with rfl | rfl | h9
    · rcases hr with h9 | h9 | h9
      · omega
      · simp [Value.ownBlock] at h9
      · exact h9
    · rcases hr with h9 | h9 | h9
      · omega
      · simp [Value.ownBlock] at h9
      · exact h9
    · exact h9
  · rcases hg with (rfl | rfl | h9) | (rfl | h9 | h9)
    · omega
    · omega
    · exact h9.elim
    · omega
    · simp [Value.ownBlock] at h9
    · exact h9.elim
set_option maxHeartbeats 2000000 in
theorem lawMakes (n : Int) (w : World) : Calls Try.prog 3 #[.int .i64 n] w fun e w' => e = .returned (.bool true) ∧ Below w.heap.size w w' := by
  by_cases hn : n < 1 ∨ 64 < n
  · have HA : Hid _ := made_bad w n hn
    have HH : Hid _ := heads_any w
    clear hn
    go_enter Try.func3, Try.ntmps3
    go_wp2_with fail
    refine Calls.mono HA.out ?_
    rintro r w1 ⟨rfl, hw⟩
    rw [hw]; clear hw HA
    go_wp2_with fail
    refine Calls.mono HH.out ?_
    rintro r w2 ⟨rfl, hb⟩
    clear HH
    go_wp2
    go_ret
    exact ⟨rfl, hb⟩
  · obtain ⟨m, rfl⟩ : ∃ m : Nat, n = m := ⟨n.toNat, by omega⟩
    have HA : Hid _ := made_any w m (by omega) (by omega)
    go_enter Try.func3, Try.ntmps3
    go_wp2_with fail
    refine Calls.mono HA.out ?_
    rintro r w1 ⟨b, p, rfl, bm, hp, hb1⟩
    have HH : Hid _ := heads_any w1
    have HP : Hid _ := hp
    have HB1 : Hid _ := hb1
    clear hp hb1 HA
    go_wp2_with fail
    refine Calls.mono HH.out ?_
    rintro r w2 ⟨rfl, hb2⟩
    have H2 : Hid _ := HP.out.t.later hb2
    have HB2 : Hid _ := HB1.out.trans (hb2.mono HB1.out.size)
    have hl2 := len_any H2.out
    have HF2 : Hid _ := full_any H2.out 0 rfl m rfl
    simp only [newS, List.length_nil] at hl2
    clear HH HB1 hb2 HP
    go_wp2_with (first | (go_at_call 11; refine hl2.mono ?_; rintro r w8 ⟨rfl, hw8⟩; rw [hw8]; clear hw8) | fail)
    refine Calls.mono HF2.out ?_
    rintro r w3 ⟨rfl, q, hw⟩
    have hd : decide (m ≤ 0) = false := by simp; omega
    rw [hd]
    have HB3 : Hid (Below w2.heap.size w2 w3) := by show Below _ _ _; rw [hw]; exact below_drewN _ _
    have H3 : Hid _ := H2.out.later HB3.out
    have HPn : Hid _ := pending_any H3.out
    clear hw hl2 HF2
    go_wp2_with fail
    refine Calls.mono HPn.out ?_
    rintro r w4 ⟨v4, rfl, ho4, hb4⟩
    have hv4 : ∃ ao cap, v4 = .slice ao 0 cap := owns_form9 ho4
    obtain ⟨ao4, c4, rfl⟩ := hv4
    have H4 : Hid _ := H3.out.later hb4
    have HB4 : Hid _ := HB3.out.trans (hb4.mono HB3.out.size)
    have HRd : Hid _ := ready_any H4.out
    clear ho4 hb4 HPn
    go_wp2_with fail
    refine Calls.mono HRd.out ?_
    rintro r w5 ⟨v5, rfl, ho5, hb5⟩
    have hv5 : ∃ ao cap, v5 = .slice ao 0 cap := owns_form9 ho5
    obtain ⟨ao5, c5, rfl⟩ := hv5
    have HB5 : Hid _ := HB4.out.trans (hb5.mono HB4.out.size)
    clear ho5 hb5 HRd
    go_wp2
    go_ret
    exact ⟨rfl, HB2.out.trans (HB5.out.mono HB2.out.size)⟩
end Go.Proofs.Ytoabigjajnikcaa
