import Derived.Test.YtckfmpoddmccfaaU13
import Derived.Test.YtckfmpoddmccfaaU16
import Derived.Test.YtckfmpoddmccfaaU17
import Derived.Test.YtckfmpoddmccfaaU14
import Derived.Deep.RegionWith
import Derived.Deep.RegionHeld3
import Derived.Test.YtckfmpoddmccfaaU24
import Derived.Test.YtckfmpoddmccfaaU23
namespace Go.Proofs.Ytckfmpoddmccfaa
open Go.RowKit
set_option linter.unusedVariables false
set_option linter.unusedSimpArgs false
set_option maxRecDepth 100000
set_option maxHeartbeats 4000000 in
theorem decFlags_short (ao : Option Addr) (cap n : Nat) (w : World) (h : n < 4) :
    Calls Try.prog 65 #[.slice ao n cap] w fun e w' => e = .returned (.tuple #[.int .u32 0, .int .i64 4, .int .i64 10]) ∧ Below w.heap.size w w' := by
  obtain ⟨W1, hW1⟩ : ∃ W1, W1 = w.alloc (nhO 4) := ⟨_, rfl⟩
  have HO : Hid (Calls Try.prog 99 #[.slice ao n cap, .int .i64 4] w fun e W' => e = .returned (.pointer (some ⟨w.heap.size, 0, none⟩)) ∧ W' = W1) := by rw [hW1]; exact open_short ao cap n 4 w h (by decide)
  have hN : Nh W1 w.heap.size 4 := ⟨by rw [hW1]; exact heap_new w _⟩
  have HB : Hid (Below w.heap.size w W1) := by show Below _ _ _; rw [hW1]; exact (Below.refl _ _).alloc (Nat.le_refl _) _
  have HU : Hid (∀ q, Calls Try.prog 100 #[.pointer (some ⟨w.heap.size, 0, none⟩)] (W1.drewN q) fun e W' => e = .returned (.int .u32 0) ∧ W' = W1.drewN q) := fun q => nh_u32 ⟨hN.blk⟩
  have r3 := hN.c 3
  have r4 := hN.c 4
  simp at r3 r4
  clear hN hW1
  go_enter Try.func65, Try.ntmps65
  go_wp2_with fail
  refine HO.out.mono ?_
  rintro e W9 ⟨rfl, hw⟩
  rw [hw]; clear hw HO
  go_wp2
  go_quiet (first | (go_at_call 100; exact Calls.quiet_of_same (HU.out _)) | fail)
  go_wp2
  go_ret3
  exact ⟨rfl, HB.out.trans ⟨rfl, rfl, rfl, Nat.le_refl _, fun _ _ => rfl⟩⟩
theorem decGreetingA (ao : Option Addr) (cap : Nat) (l : List Nat) (w : World) (h : CRow w ao cap l) :
    Calls Try.prog 68 #[.slice ao l.length cap] w fun e w' => ∃ (f n er : Nat), e = .returned (.tuple #[.agg #[.int .u16 (f : Int)], .int .i64 (n : Int), .int .i64 (er : Int)]) ∧ greD l = (f, n, er) ∧ Below w.heap.size w w' := by
  unfold greD
  by_cases h1 : l.length < 18
  · rw [if_pos h1]
    refine (decGreeting_short ao cap l.length w h1).mono ?_
    rintro e w' ⟨rfl, hb⟩
    exact ⟨0, 18, 10, rfl, rfl, hb⟩
  rw [if_neg h1]
  obtain ⟨b, off, rfl⟩ := h.some (by omega)
  by_cases h2 : vl l 0 8 ≠ mInit
  · rw [if_pos h2]
    refine (decGreeting_magic1 b off cap l.length l (vl l 0 8) w h rfl (by omega) rfl h2).mono ?_
    rintro e w' ⟨rfl, hb⟩
    exact ⟨0, 0, 80, rfl, rfl, hb⟩
  rw [if_neg h2]
  have h2' : vl l 0 8 = mInit := Classical.byContradiction h2
  by_cases h3 : vl l 8 8 ≠ mHave
  · rw [if_pos h3]
    refine (decGreeting_magic2 b off cap l.length l (vl l 8 8) w h rfl (by omega) h2' rfl h3).mono ?_
    rintro e w' ⟨rfl, hb⟩
    exact ⟨0, 0, 80, rfl, rfl, hb⟩
  rw [if_neg h3]
  have h3' : vl l 8 8 = mHave := Classical.byContradiction h3
  refine (decGreeting_ok b off cap l.length l (vl l 16 2) w h rfl (by omega) h2' h3' rfl).mono ?_
  rintro e w' ⟨rfl, hb⟩
  exact ⟨_, 18, 0, rfl, rfl, hb⟩
theorem decFlagsA (ao : Option Addr) (cap : Nat) (l : List Nat) (w : World) (h : CRow w ao cap l) :
    Calls Try.prog 65 #[.slice ao l.length cap] w fun e w' => ∃ (f n er : Nat), e = .returned (.tuple #[.int .u32 (f : Int), .int .i64 (n : Int), .int .i64 (er : Int)]) ∧ flaD l = (f, n, er) ∧ Below w.heap.size w w' := by
  unfold flaD
  by_cases h1 : l.length < 4
  · rw [if_pos h1]
    refine (decFlags_short ao cap l.length w h1).mono ?_
    rintro e w' ⟨rfl, hb⟩
    exact ⟨0, 4, 10, rfl, rfl, hb⟩
  rw [if_neg h1]
  obtain ⟨b, off, rfl⟩ := h.some (by omega)
  refine (decFlags_ok b off cap l.length l (vl l 0 4) w h rfl (by omega) rfl).mono ?_
  rintro e w' ⟨rfl, hb⟩
  exact ⟨_, 4, 0, rfl, rfl, hb⟩
theorem decSimpleA (ao : Option Addr) (cap : Nat) (l : List Nat) (w : World) (h : CRow w ao cap l) :
    Calls Try.prog 113 #[.slice ao l.length cap] w fun e w' => ∃ (c k n er : Nat), e = .returned (.tuple #[.agg #[.int .u32 (c : Int), .int .u64 (k : Int)], .int .i64 (n : Int), .int .i64 (er : Int)]) ∧ simD l = ((c, k), n, er) ∧ Below w.heap.size w w' := by
  unfold simD
  by_cases h1 : l.length < 16
  · rw [if_pos h1]
    refine (decSimple_short ao cap l.length w h1).mono ?_
    rintro e w' ⟨rfl, hb⟩
    exact ⟨0, 0, 16, 10, rfl, rfl, hb⟩
  rw [if_neg h1]
  obtain ⟨b, off, rfl⟩ := h.some (by omega)
  by_cases h2 : vl l 0 4 ≠ mSimple
  · rw [if_pos h2]
    refine (decSimple_magic b off cap l.length l w h rfl (by omega) h2).mono ?_
    rintro e w' ⟨rfl, hb⟩
    exact ⟨0, 0, 0, 80, rfl, rfl, hb⟩
  rw [if_neg h2]
  have h2' : vl l 0 4 = mSimple := Classical.byContradiction h2
  refine (decSimple_ok b off cap l.length l (vl l 4 4) (vl l 8 8) w h rfl (by omega) h2' rfl rfl).mono ?_
  rintro e w' ⟨rfl, hb⟩
  exact ⟨_, _, 16, 0, rfl, rfl, hb⟩
theorem decOptionA (ao : Option Addr) (cap : Nat) (l : List Nat) (most : Nat) (w : World) (h : CRow w ao cap l) (hm : most < 4294967296) :
    Calls Try.prog 98 #[.slice ao l.length cap, .int .u32 (most : Int)] w fun e w' => ∃ (c k : Nat) (lg : Bool) (d : List Nat) (n er : Nat) (ao2 : Option Addr) (cap2 : Nat), e = .returned (.tuple #[.agg #[.int .u32 (c : Int), .int .u32 (k : Int), .bool lg, .slice ao2 d.length cap2], .int .i64 (n : Int), .int .i64 (er : Int)]) ∧ optD most l = ((c, k, lg, d), n, er) ∧ Row w w' ao2 cap2 d := by
  unfold optD
  by_cases h1 : l.length < 16
  · rw [if_pos h1]
    refine (decOption_short ao cap l.length most w h1).mono ?_
    rintro e w' ⟨rfl, hb⟩
    exact ⟨0, 0, false, [], 16, 10, none, 0, rfl, rfl, row_nil w w' hb⟩
  rw [if_neg h1]
  obtain ⟨b, off, rfl⟩ := h.some (by omega)
  by_cases h2 : vl l 0 8 ≠ mHave
  · rw [if_pos h2]
    refine (decOption_magic b off cap l.length l most (vl l 0 8) w h rfl (by omega) rfl h2).mono ?_
    rintro e w' ⟨rfl, hb⟩
    exact ⟨0, 0, false, [], 0, 80, none, 0, rfl, rfl, row_nil w w' hb⟩
  rw [if_neg h2]
  have h2' : vl l 0 8 = mHave := Classical.byContradiction h2
  have b0 : vl l 8 4 < 4294967296 := by simpa using vl_lt h 8 4
  have b1 : vl l 12 4 < 4294967296 := by simpa using vl_lt h 12 4
  by_cases h3 : most < vl l 12 4
  · rw [if_pos h3]
    refine (decOption_long b off cap l.length l most (vl l 8 4) (vl l 12 4) w h rfl (by omega) h2' rfl rfl b0 b1 hm h3).mono ?_
    rintro e w' ⟨ao2, cap2, rfl, hr⟩
    exact ⟨_, _, true, [], 16, 12, ao2, cap2, rfl, rfl, hr⟩
  rw [if_neg h3]
  by_cases h4 : l.length < 16 + vl l 12 4
  · rw [if_pos h4]
    refine (decOption_short2 b off cap l.length l most (vl l 8 4) (vl l 12 4) w h rfl (by omega) h2' rfl rfl b0 b1 hm (by omega) (by omega) _ rfl).mono ?_
    rintro e w' ⟨rfl, hb⟩
    exact ⟨0, 0, false, [], _, 10, none, 0, rfl, rfl, row_nil w w' hb⟩
  rw [if_neg h4]
  refine (decOption_ok b off cap l.length l most (vl l 8 4) (vl l 12 4) w h rfl (by omega) h2' rfl rfl b0 b1 hm (by omega) (by omega) _ rfl _ rfl).mono ?_
  rintro e w' ⟨ao2, cap2, rfl, ho, hb⟩
  have hlen : ((l.drop 16).take (vl l 12 4)).length = vl l 12 4 := by rw [List.length_take, List.length_drop]; omega
  refine ⟨_, _, false, (l.drop 16).take (vl l 12 4), _, 0, ao2, cap2, by rw [hlen]; rfl, rfl, ?_, fun x hx => h.row.lt x (List.mem_of_mem_drop (List.mem_of_mem_take hx)), hb⟩
  rw [hlen]; exact ho
theorem decReplyA (ao : Option Addr) (cap : Nat) (l : List Nat) (most : Nat) (w : World) (h : CRow w ao cap l) (hm : most < 4294967296) :
    Calls Try.prog 72 #[.slice ao l.length cap, .int .u32 (most : Int)] w fun e w' => ∃ (c k : Nat) (d : List Nat) (n er : Nat) (ao2 : Option Addr) (cap2 : Nat), e = .returned (.tuple #[.agg #[.int .u32 (c : Int), .int .u32 (k : Int), .slice ao2 d.length cap2], .int .i64 (n : Int), .int .i64 (er : Int)]) ∧ repD most l = ((c, k, d), n, er) ∧ Row w w' ao2 cap2 d := by
  unfold repD
  by_cases h1 : l.length < 20
  · rw [if_pos h1]
    refine (decReply_short ao cap l.length most w h1).mono ?_
    rintro e w' ⟨rfl, hb⟩
    exact ⟨0, 0, [], 20, 10, none, 0, rfl, rfl, row_nil w w' hb⟩
  rw [if_neg h1]
  obtain ⟨b, off, rfl⟩ := h.some (by omega)
  by_cases h2 : vl l 0 8 ≠ mReply
  · rw [if_pos h2]
    refine (decReply_magic b off cap l.length l most (vl l 0 8) w h rfl (by omega) rfl h2).mono ?_
    rintro e w' ⟨rfl, hb⟩
    exact ⟨0, 0, [], 0, 80, none, 0, rfl, rfl, row_nil w w' hb⟩
  rw [if_neg h2]
  have h2' : vl l 0 8 = mReply := Classical.byContradiction h2
  have b0 : vl l 8 4 < 4294967296 := by simpa using vl_lt h 8 4
  have b1 : vl l 12 4 < 4294967296 := by simpa using vl_lt h 12 4
  have b2 : vl l 16 4 < 4294967296 := by simpa using vl_lt h 16 4
  by_cases h3 : most < vl l 16 4
  · rw [if_pos h3]
    refine (decReply_long b off cap l.length l most (vl l 8 4) (vl l 12 4) (vl l 16 4) w h rfl (by omega) h2' rfl rfl rfl b0 b1 b2 hm h3).mono ?_
    rintro e w' ⟨ao2, cap2, rfl, hr⟩
    exact ⟨_, _, [], 20, 12, ao2, cap2, rfl, rfl, hr⟩
  rw [if_neg h3]
  by_cases h4 : l.length < 20 + vl l 16 4
  · rw [if_pos h4]
    refine (decReply_short2 b off cap l.length l most (vl l 8 4) (vl l 12 4) (vl l 16 4) w h rfl (by omega) h2' rfl rfl rfl b0 b1 b2 hm (by omega) (by omega) _ rfl).mono ?_
    rintro e w' ⟨rfl, hb⟩
    exact ⟨0, 0, [], _, 10, none, 0, rfl, rfl, row_nil w w' hb⟩
  rw [if_neg h4]
  refine (decReply_ok b off cap l.length l most (vl l 8 4) (vl l 12 4) (vl l 16 4) w h rfl (by omega) h2' rfl rfl rfl b0 b1 b2 hm (by omega) (by omega) _ rfl _ rfl).mono ?_
  rintro e w' ⟨ao2, cap2, rfl, ho, hb⟩
  have hlen : ((l.drop 20).take (vl l 16 4)).length = vl l 16 4 := by rw [List.length_take, List.length_drop]; omega
  refine ⟨_, _, (l.drop 20).take (vl l 16 4), _, 0, ao2, cap2, by rw [hlen]; rfl, rfl, ?_, fun x hx => h.row.lt x (List.mem_of_mem_drop (List.mem_of_mem_take hx)), hb⟩
  rw [hlen]; exact ho
end Go.Proofs.Ytckfmpoddmccfaa
namespace Go.Proofs.Ytckfmpoddmccfaa
open Go.RowKit
set_option linter.unusedVariables false
set_option linter.unusedSimpArgs false
set_option maxRecDepth 100000
theorem optD_n (most : Nat) (l : List Nat) (h : (optD most l).2.2 = 0) : (optD most l).2.1 ≤ l.length := by
  unfold optD at h ⊢
  by_cases h1 : l.length < 16
  · rw [if_pos h1] at h; simp at h
  rw [if_neg h1] at h ⊢
  by_cases h2 : vl l 0 8 ≠ mHave
  · rw [if_pos h2] at h; simp at h
  rw [if_neg h2] at h ⊢
  by_cases h3 : most < vl l 12 4
  · rw [if_pos h3] at h; simp at h
  rw [if_neg h3] at h ⊢
  by_cases h4 : l.length < 16 + vl l 12 4
  · rw [if_pos h4] at h; simp at h
  rw [if_neg h4]
  simp only
  omega
end Go.Proofs.Ytckfmpoddmccfaa
namespace Go.Proofs.Ytckfmpoddmccfaa
open Go.RowKit
set_option linter.unusedVariables false
set_option linter.unusedSimpArgs false
set_option maxRecDepth 100000
/-- an option's decoder in frame: the head alone of one that is too long is taken -/
def optF (most : Nat) (l : List Nat) : (Nat × Nat × Bool × List Nat) × Nat × Nat := ((optD most l).1, (optD most l).2.1, if (optD most l).2.2 = 12 then 0 else (optD most l).2.2)
theorem optF_n (most : Nat) (l : List Nat) (h : (optF most l).2.2 = 0) : (optF most l).2.1 ≤ l.length := by
  have h0 := optD_n most l
  unfold optF at h ⊢
  simp only at h ⊢
  by_cases h12 : (optD most l).2.2 = 12
  · unfold optD at h12 ⊢
    by_cases h1 : l.length < 16
    · rw [if_pos h1] at h12; simp at h12
    rw [if_neg h1] at h12 ⊢
    by_cases h2 : vl l 0 8 ≠ mHave
    · rw [if_pos h2] at h12; simp at h12
    rw [if_neg h2] at h12 ⊢
    by_cases h3 : most < vl l 12 4
    · rw [if_pos h3]; simp only; omega
    rw [if_neg h3] at h12 ⊢
    by_cases h4 : l.length < 16 + vl l 12 4
    · rw [if_pos h4] at h12; simp at h12
    rw [if_neg h4] at h12; simp at h12
  · rw [if_neg h12] at h
    exact h0 h
/-- what a decoder of options answers -/
def OptP (D : (Nat × Nat × Bool × List Nat) × Nat × Nat) (w : World) (e : Ending) (w' : World) : Prop :=
  ∃ (c k : Nat) (lg : Bool) (d : List Nat) (n er : Nat) (ao2 : Option Addr) (cap2 : Nat), e = .returned (.tuple #[.agg #[.int .u32 (c : Int), .int .u32 (k : Int), .bool lg, .slice ao2 d.length cap2], .int .i64 (n : Int), .int .i64 (er : Int)]) ∧ D = ((c, k, lg, d), n, er) ∧ Row w w' ao2 cap2 d
/-- boxes and a row, new ones, and else all is as it was -/
structure Bx (w W : World) (bs : List (Nat × Array Value × TypeId)) (dv : Value) (d : List Nat) : Prop where
  bel : Below w.heap.size w W
  box : ∀ x ∈ bs, W.heap[x.1]? = some (.cells x.2.1 x.2.2 (0, 0)) ∧ w.heap.size ≤ x.1 ∧ x.2.2 ≠ 5
  nd : (bs.map (·.1)).Nodup
  row : W.ownsRow w.heap.size 5 1 dv d.length (d.map bv)
section
variable {w W W' : World} {bs : List (Nat × Array Value × TypeId)} {dv : Value} {d : List Nat}
theorem Bx.start (w : World) : Bx w w [] (.slice none 0 0) [] := ⟨Below.refl _ _, by simp, by simp, World.ownsRow_nil _ _ _ _⟩
theorem Bx.later (h : Bx w W bs dv d) (hb : Below W.heap.size W W') : Bx w W' bs dv d :=
  ⟨h.bel.trans (hb.mono h.bel.size), fun x hx => ⟨(hb.block _ (block_lt (h.box x hx).1)).trans (h.box x hx).1, (h.box x hx).2⟩, h.nd, owns_same h.row fun g hg => hb.block g (owns_lt h.row g hg).1⟩
theorem Bx.alloc (h : Bx w W bs dv d) (cs : Array Value) (t : TypeId) (ht : t ≠ 5) : Bx w (W.alloc (.cells cs t)) ((W.heap.size, cs, t) :: bs) dv d := by
  have h2 := h.later (W' := W.alloc (.cells cs t)) ((Below.refl _ _).alloc (Nat.le_refl _) _)
  refine ⟨h2.bel, fun x hx => ?_, ?_, h2.row⟩
  · rcases List.mem_cons.1 hx with rfl | hx
    · exact ⟨heap_new W _, h.bel.size, ht⟩
    · exact h2.box x hx
  · rw [List.map_cons, List.nodup_cons]
    refine ⟨fun hm => ?_, h.nd⟩
    obtain ⟨x, hx, e⟩ := List.mem_map.1 hm
    have e' : x.1 = W.heap.size := e
    have := block_lt (h.box x hx).1
    omega
theorem Bx.told (h : Bx w W bs dv d) {ao : Option Addr} {cap : Nat} {d' : List Nat} (hr : Row W W' ao cap d') : Bx w W' bs (.slice ao d'.length cap) d' := by
  have h2 := h.later hr.bel
  exact ⟨h2.bel, h2.box, h2.nd, owns_mono hr.own h.bel.size⟩
theorem Bx.put {pre post : List (Nat × Array Value × TypeId)} {g : Nat} {cs : Array Value} {t : TypeId} (h : Bx w W (pre ++ (g, cs, t) :: post) dv d) (j : Nat) (u : Value) {cs' : Array Value} (hcs : cs.setIfInBounds j u = cs') : Bx w (W.setCell ⟨g, j, none⟩ u) (pre ++ (g, cs', t) :: post) dv d := by
  have hg : (g, cs, t) ∈ pre ++ (g, cs, t) :: post := by simp
  obtain ⟨h1, h2, h3⟩ := h.box _ hg
  have n2 : dv.ownBlock ≠ some g := fun e => by
    obtain ⟨cur, hc⟩ := owns_type h.row _ e
    have := h1.symm.trans hc
    simp at this
    exact h3 this.2
  have hnd := h.nd
  rw [List.map_append, List.map_cons, List.nodup_append, List.nodup_cons] at hnd
  obtain ⟨hn1, ⟨hn2, hn3⟩, hn4⟩ := hnd
  have hoth : ∀ x, x ∈ pre ∨ x ∈ post → x.1 ≠ g := by
    rintro x (hx | hx) e
    · exact hn4 x.1 (List.mem_map_of_mem hx) g (by simp) e
    · exact hn2 (List.mem_map.2 ⟨x, hx, e⟩)
  refine ⟨below_set h.bel h2, fun x hx => ?_, by simpa using h.nd, owns_same h.row fun k hk2 => Below.heap_setCell _ _ _ _ (fun e => n2 (by rw [hk2, e]))⟩
  have key : ∀ x, x ∈ pre ∨ x ∈ post → (W.setCell ⟨g, j, none⟩ u).heap[x.1]? = some (.cells x.2.1 x.2.2 (0, 0)) ∧ w.heap.size ≤ x.1 ∧ x.2.2 ≠ 5 := fun x hx' => by
    obtain ⟨k1, k2⟩ := h.box x (by rcases hx' with e | e <;> simp [e])
    exact ⟨(Below.heap_setCell _ _ _ _ (hoth x hx')).trans k1, k2⟩
  rcases List.mem_append.1 hx with hx' | hx'
  · exact key x (.inl hx')
  · rcases List.mem_cons.1 hx' with rfl | hx'
    · refine ⟨?_, h2, h3⟩
      have := heap_setCell_same W g j cs t u h1
      rw [this, hcs]
    · exact key x (.inr hx')
theorem Bx.c (h : Bx w W bs dv d) {g : Nat} {cs : Array Value} {t : TypeId} (hg : (g, cs, t) ∈ bs) (j : Nat) : W.cell? ⟨g, j, none⟩ = cs[j]? ∧ W.frozen? ⟨g, j, none⟩ = false :=
  ⟨blk_at (h.box _ hg).1 j, blk_free (h.box _ hg).1 j⟩
end
abbrev zOpt : Array Value := #[.int .u32 0, .int .u32 0, .bool false, nilV]
set_option maxHeartbeats 4000000 in
theorem decodeOptionF (ao : Option Addr) (cap : Nat) (l : List Nat) (most : Nat) (w : World) (h : CRow w ao cap l) (hm : most < 4294967296) :
    Calls Try.prog 62 #[.slice ao l.length cap, .int .u32 (most : Int)] w fun e w' => OptP (optF most l) w e w' := by
  have h5 : 57 ≠ 5 := by decide
  obtain ⟨W0, hW0⟩ : ∃ W0, W0 = w.alloc (.cells #[.int .u32 0, .int .u32 0, .bool false, Value.slice none 0 0] 57) := ⟨_, rfl⟩
  have hB0 := (Bx.start w).alloc #[.int .u32 0, .int .u32 0, .bool false, Value.slice none 0 0] 57 h5
  rw [← hW0] at hB0
  have H0 : Hid _ := hB0
  have HD : Hid _ := decOptionA ao cap l most W0 (h.later hB0.bel) hm
  obtain ⟨ln, hln⟩ : ∃ ln, l.length = ln := ⟨_, rfl⟩
  rw [hln] at HD
  rw [hln]
  clear hB0 h
  go_enter Try.func62, Try.ntmps62
  go_wp2_with fail
  rw [← hW0]
  clear hW0
  refine Calls.mono HD.out ?_
  rintro e W1 ⟨c, k, lg, d, n, er, ao2, cap2, rfl, hD, hr⟩
  have HDe : Hid (optD most l = ((c, k, lg, d), n, er)) := hD
  have HR : Hid (∀ x ∈ d, x < 256) := hr.lt
  have H2 : Hid _ := (H0.out.told hr).alloc #[.int .u32 (c : Int), .int .u32 (k : Int), .bool lg, .slice ao2 d.length cap2] 57 h5
  clear H0 HD hD hr
  obtain ⟨r0, f0⟩ := H2.out.c (.tail _ (.head _)) 0; obtain ⟨r1, f1⟩ := H2.out.c (.tail _ (.head _)) 1; obtain ⟨r2, f2⟩ := H2.out.c (.tail _ (.head _)) 2; obtain ⟨r3, f3⟩ := H2.out.c (.tail _ (.head _)) 3
  simp at r0 r1 r2 r3
  have H3 : Hid _ := Bx.put (pre := [_]) (Bx.put (pre := [_]) (Bx.put (pre := [_]) (Bx.put (pre := [_]) H2.out 0 (.int .u32 (c : Int)) (cs' := #[.int .u32 (c : Int), .int .u32 0, .bool false, Value.slice none 0 0]) rfl) 1 (.int .u32 (k : Int)) (cs' := #[.int .u32 (c : Int), .int .u32 (k : Int), .bool false, Value.slice none 0 0]) rfl) 2 (.bool lg) (cs' := #[.int .u32 (c : Int), .int .u32 (k : Int), .bool lg, Value.slice none 0 0]) rfl) 3 (.slice ao2 d.length cap2) (cs' := #[.int .u32 (c : Int), .int .u32 (k : Int), .bool lg, .slice ao2 d.length cap2]) rfl
  clear H2
  by_cases h12 : er = 12
  · subst h12
    go_wp2
    exact bodyPost_ret (results_cell_tmp2 rfl _ _ w.heap.size 57 #[.int .u32 (c : Int), .int .u32 (k : Int), .bool lg, .slice ao2 d.length cap2] (0, 0) _ rfl (H3.out.box _ (.tail _ (.head _))).1 Try.underlying57 rfl infoOpt) rfl ⟨c, k, lg, d, n, 0, ao2, cap2, rfl, by simp [optF, HDe.out], H3.out.row, HR.out, H3.out.bel⟩
  · have e12 : ¬ ((er : Int) = 12) := by omega
    go_wp2
    exact bodyPost_ret (results_cell_tmp2 rfl _ _ w.heap.size 57 #[.int .u32 (c : Int), .int .u32 (k : Int), .bool lg, .slice ao2 d.length cap2] (0, 0) _ rfl (H3.out.box _ (.tail _ (.head _))).1 Try.underlying57 rfl infoOpt) rfl ⟨c, k, lg, d, n, er, ao2, cap2, rfl, by simp [optF, HDe.out, h12], H3.out.row, HR.out, H3.out.bel⟩
end Go.Proofs.Ytckfmpoddmccfaa
namespace Go.Proofs.Ytckfmpoddmccfaa
open Go.RowKit
set_option linter.unusedVariables false
set_option linter.unusedSimpArgs false
set_option maxRecDepth 100000
def CutFlags (w : World) (B b : Nat) (v : Value) (rm ov : Nat) (l : List Nat) (D : Nat × Nat × Nat) (e : Ending) (w' : World) : Prop :=
  ∃ (f cu : Nat) (l' : List Nat) (v' : Value), e = .returned (.tuple #[.int .u32 (f : Int), .int .i64 (cu : Int)]) ∧ cutOf 0 ov l D = (f, cu, l') ∧ Inb w' B b v' rm ov l' ∧ IAct w w' b v v'
set_option maxHeartbeats 8000000 in
theorem cutFlags {w : World} {B b : Nat} {v : Value} {rm ov : Nat} {l : List Nat} (h : Inb w B b v rm ov l) (caps : Array Value) (D : Nat × Nat × Nat) (hD : D.2.2 = 0 → D.2.1 ≤ l.length)
    (HD : Hid (∀ W : World, Below w.heap.size w W → Calls Try.prog 65 (#[v] ++ caps) W fun e W' => ∃ (f n er : Nat), e = .returned (.tuple #[.int .u32 (f : Int), .int .i64 (n : Int), .int .i64 (er : Int)]) ∧ D = (f, n, er) ∧ Below W.heap.size W W')) :
    Calls Try.prog 66 #[.agg #[.pointer (some ⟨b, 0, none⟩), .func (.func 65) #[] caps]] w fun e w' => CutFlags w B b v rm ov l D e w' := by
  have h6 : 147 ≠ 5 := by decide
  obtain ⟨W0, hW0⟩ : ∃ W0, W0 = w.alloc (.cells #[.pointer (some ⟨b, 0, none⟩), .func (.func 65) #[] caps] 147) := ⟨_, rfl⟩
  have hC0 := (Cf.start h).alloc #[.pointer (some ⟨b, 0, none⟩), .func (.func 65) #[] caps] 147 h6
  rw [← hW0] at hC0
  have H0 : Hid _ := hC0
  have HU : Hid (Calls Try.prog 27 #[.pointer (some ⟨b, 0, none⟩)] W0 fun e w' => e = .returned (.bool true) ∧ w' = W0) := usableI hC0.inb
  have c2 := hC0.inb.c 2
  simp at c2
  obtain ⟨y0, _⟩ := hC0.c (.head _) 0
  obtain ⟨y1, _⟩ := hC0.c (.head _) 1
  simp at y0 y1
  have HBd : Hid (Below w.heap.size w W0.drew) := by
    show Below _ _ _
    rw [hW0]; exact below_drew ((Below.refl _ _).alloc (Nat.le_refl _) _)
  clear hC0 h
  go_enter Try.func66, Try.ntmps66
  go_wp2_with fail
  rw [← hW0]
  clear hW0
  refine HU.out.mono ?_
  rintro e w1 ⟨rfl, hw1⟩
  rw [hw1]; clear hw1 HU
  by_cases hov : 0 < ov
  · have t1 : decide ((0 : Int) < (ov : Int)) = true := by simp; omega
    have t2 : (0 : Int) < (ov : Int) := by omega
    go_wp2
    go_ret2
    exact ⟨0, 0, l, v, rfl, by simp [cutOf, hov], H0.out.inb, H0.out.act⟩
  · obtain rfl : ov = 0 := by omega
    have c1 := H0.out.inb.c 1
    simp at c1
    have H1 : Hid _ := H0.out.drew
    have HDa : Hid _ := HD.out _ HBd.out
    clear HD HBd H0
    go_wp2
    go_region_with (go_at_call 65; refine Calls.mono HDa.out ?_; rintro e W1 ⟨f, n, er, rfl, hDe, hb⟩; have H3 : Hid _ := H1.out.later hb; have HDe : Hid _ := hDe; clear hb hDe)
    all_goals
      have hD' := hD
      rw [HDe.out] at hD'
      obtain ⟨y0', _⟩ := H3.out.c (.head _) 0
      simp at y0'
      by_cases he0 : er = 0
      · subst he0
        have hn : n ≤ l.length := hD' rfl
        have HDr : Hid _ := dropI H3.out.inb n hn
        go_wp2_with fail
        refine Calls.mono HDr.out ?_
        rintro e W2 ⟨rfl, v', hI, hA⟩
        have H4 : Hid _ := H3.out.acts hI hA
        clear H3 hI hA HDr
        go_wp2
        go_ret2
        exact ⟨f, 1, l.drop n, v', rfl, by rw [HDe.out]; simp [cutOf], H4.out.inb, H4.out.act⟩
      · have e0 : ¬ ((er : Int) = 0) := by omega
        by_cases he10 : er = 10
        · subst he10
          go_wp2
          go_ret2
          exact ⟨0, 0, l, v, rfl, by rw [HDe.out]; simp [cutOf], H3.out.inb, H3.out.act⟩
        · have e10 : ¬ ((er : Int) = 10) := by omega
          by_cases he12 : er = 12
          · subst he12
            go_wp2
            go_ret2
            exact ⟨0, 3, l, v, rfl, by rw [HDe.out]; simp [cutOf], H3.out.inb, H3.out.act⟩
          · have e12 : ¬ ((er : Int) = 12) := by omega
            go_wp2
            go_ret2
            exact ⟨0, 2, l, v, rfl, by rw [HDe.out]; simp [cutOf, *], H3.out.inb, H3.out.act⟩
theorem flaD_n (l : List Nat) (h : (flaD l).2.2 = 0) : (flaD l).2.1 ≤ l.length := by
  unfold flaD at h ⊢
  by_cases h1 : l.length < 4
  · rw [if_pos h1] at h; simp at h
  · rw [if_neg h1]; simp only; omega
set_option maxHeartbeats 400000 in
theorem flagsI {w : World} {B b : Nat} {v : Value} {rm ov : Nat} {l : List Nat} (h : Inb w B b v rm ov l) :
    Calls Try.prog 25 #[.pointer (some ⟨b, 0, none⟩)] w fun e w' => CutFlags w B b v rm ov l (flaD l) e w' := by
  obtain ⟨ao, cap, hv, hcr⟩ := h.row.crow
  have HC : Hid (Calls Try.prog 66 #[.agg #[.pointer (some ⟨b, 0, none⟩), .func (.func 65) #[] #[]]] w fun e w' => CutFlags w B b v rm ov l (flaD l) e w') := cutFlags h #[] (flaD l) (flaD_n l) (fun W hW => by
      have := decFlagsA ao cap l W (hcr.later hW)
      rw [hv]
      exact this)
  clear h hcr
  go_enter Try.func25, Try.ntmps25
  go_wp2_with fail
  refine HC.out.mono ?_
  rintro e w1 ⟨f, cu, l', v', rfl, hc, hI, hA⟩
  have HR : Hid _ := And.intro hc (And.intro hI hA)
  clear hc hI hA
  go_wp2
  go_ret2
  exact ⟨f, cu, l', v', rfl, HR.out.1, HR.out.2.1, HR.out.2.2⟩
end Go.Proofs.Ytckfmpoddmccfaa
namespace Go.Proofs.Ytckfmpoddmccfaa
open Go.RowKit
set_option linter.unusedVariables false
set_option linter.unusedSimpArgs false
set_option maxRecDepth 100000
theorem decExportA0 (ao : Option Addr) (cap : Nat) (l : List Nat) (w : World) (h : CRow w ao cap l) :
    Calls Try.prog 75 #[.slice ao l.length cap, .bool false] w fun e w' => ∃ (s f n er : Nat), e = .returned (.tuple #[.agg #[.int .u64 (s : Int), .int .u16 (f : Int)], .int .i64 (n : Int), .int .i64 (er : Int)]) ∧ expD false l = ((s, f), n, er) ∧ Below w.heap.size w w' := by
  have hz : xz false = 10 := rfl
  unfold expD
  rw [hz]
  by_cases h1 : l.length < 10
  · rw [if_pos h1]
    refine (decExport0_short ao cap l.length w h1).mono ?_
    rintro e w' ⟨rfl, hb⟩
    exact ⟨0, 0, 10, 10, rfl, rfl, hb⟩
  rw [if_neg h1]
  obtain ⟨b, off, rfl⟩ := h.some (by omega)
  by_cases h2 : xzs false l = false
  · rw [if_pos h2]
    have h3 : ∃ x ∈ (l.take 10).drop 10, x ≠ 0 := by
      unfold xzs at h2
      rw [hz, List.all_eq_false] at h2
      obtain ⟨x, hx, hx0⟩ := h2
      exact ⟨x, hx, by simpa using hx0⟩
    refine (decExport0_form b off cap l.length l w h rfl (by omega) h3).mono ?_
    rintro e w' ⟨rfl, hb⟩
    exact ⟨0, 0, 0, 81, rfl, rfl, hb⟩
  rw [if_neg h2]
  have h3 : ∀ x ∈ (l.take 10).drop 10, x = 0 := fun x hx => by
    have h2' : xzs false l = true := by simpa using h2
    unfold xzs at h2'
    rw [hz, List.all_eq_true] at h2'
    simpa using h2' x hx
  refine (decExport0_ok b off cap l.length l (vl l 0 8) (vl l 8 2) w h rfl (by omega) rfl rfl h3).mono ?_
  rintro e w' ⟨rfl, hb⟩
  exact ⟨_, _, 10, 0, rfl, rfl, hb⟩
theorem decExportA1 (ao : Option Addr) (cap : Nat) (l : List Nat) (w : World) (h : CRow w ao cap l) :
    Calls Try.prog 75 #[.slice ao l.length cap, .bool true] w fun e w' => ∃ (s f n er : Nat), e = .returned (.tuple #[.agg #[.int .u64 (s : Int), .int .u16 (f : Int)], .int .i64 (n : Int), .int .i64 (er : Int)]) ∧ expD true l = ((s, f), n, er) ∧ Below w.heap.size w w' := by
  have hz : xz true = 134 := rfl
  unfold expD
  rw [hz]
  by_cases h1 : l.length < 134
  · rw [if_pos h1]
    refine (decExport1_short ao cap l.length w h1).mono ?_
    rintro e w' ⟨rfl, hb⟩
    exact ⟨0, 0, 134, 10, rfl, rfl, hb⟩
  rw [if_neg h1]
  obtain ⟨b, off, rfl⟩ := h.some (by omega)
  by_cases h2 : xzs true l = false
  · rw [if_pos h2]
    have h3 : ∃ x ∈ (l.take 134).drop 10, x ≠ 0 := by
      unfold xzs at h2
      rw [hz, List.all_eq_false] at h2
      obtain ⟨x, hx, hx0⟩ := h2
      exact ⟨x, hx, by simpa using hx0⟩
    refine (decExport1_form b off cap l.length l w h rfl (by omega) h3).mono ?_
    rintro e w' ⟨rfl, hb⟩
    exact ⟨0, 0, 0, 81, rfl, rfl, hb⟩
  rw [if_neg h2]
  have h3 : ∀ x ∈ (l.take 134).drop 10, x = 0 := fun x hx => by
    have h2' : xzs true l = true := by simpa using h2
    unfold xzs at h2'
    rw [hz, List.all_eq_true] at h2'
    simpa using h2' x hx
  refine (decExport1_ok b off cap l.length l (vl l 0 8) (vl l 8 2) w h rfl (by omega) rfl rfl h3).mono ?_
  rintro e w' ⟨rfl, hb⟩
  exact ⟨_, _, 134, 0, rfl, rfl, hb⟩
theorem decExportA (ao : Option Addr) (cap : Nat) (l : List Nat) (z : Bool) (w : World) (h : CRow w ao cap l) :
    Calls Try.prog 75 #[.slice ao l.length cap, .bool z] w fun e w' => ∃ (s f n er : Nat), e = .returned (.tuple #[.agg #[.int .u64 (s : Int), .int .u16 (f : Int)], .int .i64 (n : Int), .int .i64 (er : Int)]) ∧ expD z l = ((s, f), n, er) ∧ Below w.heap.size w w' := by
  cases z with
  | false => exact decExportA0 ao cap l w h
  | true => exact decExportA1 ao cap l w h
end Go.Proofs.Ytckfmpoddmccfaa
