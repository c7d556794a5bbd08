import Derived.Test.YtckfmpoddmccfaaNV
import Derived.Test.YtckfmpoddmccfaaJLi
import Derived.Test.YtckfmpoddmccfaaJLo
import Derived.Test.YtckfmpoddmccfaaJLg
import Derived.Test.YtckfmpoddmccfaaJLf
import Derived.Test.YtckfmpoddmccfaaJLx
import Derived.Test.YtckfmpoddmccfaaJLq
import Derived.Test.YtckfmpoddmccfaaJLr
import Derived.Test.YtckfmpoddmccfaaJLs
namespace Go.Proofs.Ytckfmpoddmccfaa
open Go.RowKit
set_option linter.unusedVariables false
set_option linter.unusedSimpArgs false
set_option maxRecDepth 100000
set_option maxHeartbeats 4000000 in
theorem decFlags_short (ao : Option Addr) (cap n : Nat) (w : World) (h : n < 4) :
    Calls Try.prog 65 #[.slice ao n cap] w fun e w' => e = .returned (.tuple #[.int .u32 0, .int .i64 4, .int .i64 10]) ∧ Below w.heap.size w w' := by
  obtain ⟨W1, hW1⟩ : ∃ W1, W1 = w.alloc (nhO 4) := ⟨_, rfl⟩
  have HO : Hid (Calls Try.prog 99 #[.slice ao n cap, .int .i64 4] w fun e W' => e = .returned (.pointer (some ⟨w.heap.size, 0, none⟩)) ∧ W' = W1) := by rw [hW1]; exact open_short ao cap n 4 w h (by decide)
  have hN : Nh W1 w.heap.size 4 := ⟨by rw [hW1]; exact heap_new w _⟩
  have HB : Hid (Below w.heap.size w W1) := by show Below _ _ _; rw [hW1]; exact (Below.refl _ _).alloc (Nat.le_refl _) _
  have HU : Hid (∀ q, Calls Try.prog 100 #[.pointer (some ⟨w.heap.size, 0, none⟩)] (W1.drewN q) fun e W' => e = .returned (.int .u32 0) ∧ W' = W1.drewN q) := fun q => nh_u32 ⟨hN.blk⟩
  have r3 := hN.c 3
  have r4 := hN.c 4
  simp at r3 r4
  clear hN hW1
  go_enter Try.func65, Try.ntmps65
  go_wp2_with fail
  refine HO.out.mono ?_
  rintro e W9 ⟨rfl, hw⟩
  rw [hw]; clear hw HO
  go_wp2
  go_quiet (first | (go_at_call 100; exact Calls.quiet_of_same (HU.out _)) | fail)
  go_wp2
  go_ret3
  exact ⟨rfl, HB.out.trans ⟨rfl, rfl, rfl, Nat.le_refl _, fun _ _ => rfl⟩⟩
theorem decGreetingA (ao : Option Addr) (cap : Nat) (l : List Nat) (w : World) (h : CRow w ao cap l) :
    Calls Try.prog 68 #[.slice ao l.length cap] w fun e w' => ∃ (f n er : Nat), e = .returned (.tuple #[.agg #[.int .u16 (f : Int)], .int .i64 (n : Int), .int .i64 (er : Int)]) ∧ greD l = (f, n, er) ∧ Below w.heap.size w w' := by
  unfold greD
  by_cases h1 : l.length < 18
  · rw [if_pos h1]
    refine (decGreeting_short ao cap l.length w h1).mono ?_
    rintro e w' ⟨rfl, hb⟩
    exact ⟨0, 18, 10, rfl, rfl, hb⟩
  rw [if_neg h1]
  obtain ⟨b, off, rfl⟩ := h.some (by omega)
  by_cases h2 : vl l 0 8 ≠ mInit
  · rw [if_pos h2]
    refine (decGreeting_magic1 b off cap l.length l (vl l 0 8) w h rfl (by omega) rfl h2).mono ?_
    rintro e w' ⟨rfl, hb⟩
    exact ⟨0, 0, 80, rfl, rfl, hb⟩
  rw [if_neg h2]
  have h2' : vl l 0 8 = mInit := Classical.byContradiction h2
  by_cases h3 : vl l 8 8 ≠ mHave
  · rw [if_pos h3]
    refine (decGreeting_magic2 b off cap l.length l (vl l 8 8) w h rfl (by omega) h2' rfl h3).mono ?_
    rintro e w' ⟨rfl, hb⟩
    exact ⟨0, 0, 80, rfl, rfl, hb⟩
  rw [if_neg h3]
  have h3' : vl l 8 8 = mHave := Classical.byContradiction h3
  refine (decGreeting_ok b off cap l.length l (vl l 16 2) w h rfl (by omega) h2' h3' rfl).mono ?_
  rintro e w' ⟨rfl, hb⟩
  exact ⟨_, 18, 0, rfl, rfl, hb⟩
theorem decFlagsA (ao : Option Addr) (cap : Nat) (l : List Nat) (w : World) (h : CRow w ao cap l) :
    Calls Try.prog 65 #[.slice ao l.length cap] w fun e w' => ∃ (f n er : Nat), e = .returned (.tuple #[.int .u32 (f : Int), .int .i64 (n : Int), .int .i64 (er : Int)]) ∧ flaD l = (f, n, er) ∧ Below w.heap.size w w' := by
  unfold flaD
  by_cases h1 : l.length < 4
  · rw [if_pos h1]
    refine (decFlags_short ao cap l.length w h1).mono ?_
    rintro e w' ⟨rfl, hb⟩
    exact ⟨0, 4, 10, rfl, rfl, hb⟩
  rw [if_neg h1]
  obtain ⟨b, off, rfl⟩ := h.some (by omega)
  refine (decFlags_ok b off cap l.length l (vl l 0 4) w h rfl (by omega) rfl).mono ?_
  rintro e w' ⟨rfl, hb⟩
  exact ⟨_, 4, 0, rfl, rfl, hb⟩
theorem decSimpleA (ao : Option Addr) (cap : Nat) (l : List Nat) (w : World) (h : CRow w ao cap l) :
    Calls Try.prog 113 #[.slice ao l.length cap] w fun e w' => ∃ (c k n er : Nat), e = .returned (.tuple #[.agg #[.int .u32 (c : Int), .int .u64 (k : Int)], .int .i64 (n : Int), .int .i64 (er : Int)]) ∧ simD l = ((c, k), n, er) ∧ Below w.heap.size w w' := by
  unfold simD
  by_cases h1 : l.length < 16
  · rw [if_pos h1]
    refine (decSimple_short ao cap l.length w h1).mono ?_
    rintro e w' ⟨rfl, hb⟩
    exact ⟨0, 0, 16, 10, rfl, rfl, hb⟩
  rw [if_neg h1]
  obtain ⟨b, off, rfl⟩ := h.some (by omega)
  by_cases h2 : vl l 0 4 ≠ mSimple
  · rw [if_pos h2]
    refine (decSimple_magic b off cap l.length l w h rfl (by omega) h2).mono ?_
    rintro e w' ⟨rfl, hb⟩
    exact ⟨0, 0, 0, 80, rfl, rfl, hb⟩
  rw [if_neg h2]
  have h2' : vl l 0 4 = mSimple := Classical.byContradiction h2
  refine (decSimple_ok b off cap l.length l (vl l 4 4) (vl l 8 8) w h rfl (by omega) h2' rfl rfl).mono ?_
  rintro e w' ⟨rfl, hb⟩
  exact ⟨_, _, 16, 0, rfl, rfl, hb⟩
theorem decOptionA (ao : Option Addr) (cap : Nat) (l : List Nat) (most : Nat) (w : World) (h : CRow w ao cap l) (hm : most < 4294967296) :
    Calls Try.prog 98 #[.slice ao l.length cap, .int .u32 (most : Int)] w fun e w' => ∃ (c k : Nat) (lg : Bool) (d : List Nat) (n er : Nat) (ao2 : Option Addr) (cap2 : Nat), e = .returned (.tuple #[.agg #[.int .u32 (c : Int), .int .u32 (k : Int), .bool lg, .slice ao2 d.length cap2], .int .i64 (n : Int), .int .i64 (er : Int)]) ∧ optD most l = ((c, k, lg, d), n, er) ∧ Row w w' ao2 cap2 d := by
  unfold optD
  by_cases h1 : l.length < 16
  · rw [if_pos h1]
    refine (decOption_short ao cap l.length most w h1).mono ?_
    rintro e w' ⟨rfl, hb⟩
    exact ⟨0, 0, false, [], 16, 10, none, 0, rfl, rfl, row_nil w w' hb⟩
  rw [if_neg h1]
  obtain ⟨b, off, rfl⟩ := h.some (by omega)
  by_cases h2 : vl l 0 8 ≠ mHave
  · rw [if_pos h2]
    refine (decOption_magic b off cap l.length l most (vl l 0 8) w h rfl (by omega) rfl h2).mono ?_
    rintro e w' ⟨rfl, hb⟩
    exact ⟨0, 0, false, [], 0, 80, none, 0, rfl, rfl, row_nil w w' hb⟩
  rw [if_neg h2]
  have h2' : vl l 0 8 = mHave := Classical.byContradiction h2
  have b0 : vl l 8 4 < 4294967296 := by simpa using vl_lt h 8 4
  have b1 : vl l 12 4 < 4294967296 := by simpa using vl_lt h 12 4
  by_cases h3 : most < vl l 12 4
  · rw [if_pos h3]
    refine (decOption_long b off cap l.length l most (vl l 8 4) (vl l 12 4) w h rfl (by omega) h2' rfl rfl b0 b1 hm h3).mono ?_
    rintro e w' ⟨ao2, cap2, rfl, hr⟩
    exact ⟨_, _, true, [], 16, 12, ao2, cap2, rfl, rfl, hr⟩
  rw [if_neg h3]
  by_cases h4 : l.length < 16 + vl l 12 4
  · rw [if_pos h4]
    refine (decOption_short2 b off cap l.length l most (vl l 8 4) (vl l 12 4) w h rfl (by omega) h2' rfl rfl b0 b1 hm (by omega) (by omega) _ rfl).mono ?_
    rintro e w' ⟨rfl, hb⟩
    exact ⟨0, 0, false, [], _, 10, none, 0, rfl, rfl, row_nil w w' hb⟩
  rw [if_neg h4]
  refine (decOption_ok b off cap l.length l most (vl l 8 4) (vl l 12 4) w h rfl (by omega) h2' rfl rfl b0 b1 hm (by omega) (by omega) _ rfl _ rfl).mono ?_
  rintro e w' ⟨ao2, cap2, rfl, ho, hb⟩
  have hlen : ((l.drop 16).take (vl l 12 4)).length = vl l 12 4 := by rw [List.length_take, List.length_drop]; omega
  refine ⟨_, _, false, (l.drop 16).take (vl l 12 4), _, 0, ao2, cap2, by rw [hlen]; rfl, rfl, ?_, fun x hx => h.row.lt x (List.mem_of_mem_drop (List.mem_of_mem_take hx)), hb⟩
  rw [hlen]; exact ho
theorem decReplyA (ao : Option Addr) (cap : Nat) (l : List Nat) (most : Nat) (w : World) (h : CRow w ao cap l) (hm : most < 4294967296) :
    Calls Try.prog 72 #[.slice ao l.length cap, .int .u32 (most : Int)] w fun e w' => ∃ (c k : Nat) (d : List Nat) (n er : Nat) (ao2 : Option Addr) (cap2 : Nat), e = .returned (.tuple #[.agg #[.int .u32 (c : Int), .int .u32 (k : Int), .slice ao2 d.length cap2], .int .i64 (n : Int), .int .i64 (er : Int)]) ∧ repD most l = ((c, k, d), n, er) ∧ Row w w' ao2 cap2 d := by
  unfold repD
  by_cases h1 : l.length < 20
  · rw [if_pos h1]
    refine (decReply_short ao cap l.length most w h1).mono ?_
    rintro e w' ⟨rfl, hb⟩
    exact ⟨0, 0, [], 20, 10, none, 0, rfl, rfl, row_nil w w' hb⟩
  rw [if_neg h1]
  obtain ⟨b, off, rfl⟩ := h.some (by omega)
  by_cases h2 : vl l 0 8 ≠ mReply
  · rw [if_pos h2]
    refine (decReply_magic b off cap l.length l most (vl l 0 8) w h rfl (by omega) rfl h2).mono ?_
    rintro e w' ⟨rfl, hb⟩
    exact ⟨0, 0, [], 0, 80, none, 0, rfl, rfl, row_nil w w' hb⟩
  rw [if_neg h2]
  have h2' : vl l 0 8 = mReply := Classical.byContradiction h2
  have b0 : vl l 8 4 < 4294967296 := by simpa using vl_lt h 8 4
  have b1 : vl l 12 4 < 4294967296 := by simpa using vl_lt h 12 4
  have b2 : vl l 16 4 < 4294967296 := by simpa using vl_lt h 16 4
  by_cases h3 : most < vl l 16 4
  · rw [if_pos h3]
    refine (decReply_long b off cap l.length l most (vl l 8 4) (vl l 12 4) (vl l 16 4) w h rfl (by omega) h2' rfl rfl rfl b0 b1 b2 hm h3).mono ?_
    rintro e w' ⟨ao2, cap2, rfl, hr⟩
    exact ⟨_, _, [], 20, 12, ao2, cap2, rfl, rfl, hr⟩
  rw [if_neg h3]
  by_cases h4 : l.length < 20 + vl l 16 4
  · rw [if_pos h4]
    refine (decReply_short2 b off cap l.length l most (vl l 8 4) (vl l 12 4) (vl l 16 4) w h rfl (by omega) h2' rfl rfl rfl b0 b1 b2 hm (by omega) (by omega) _ rfl).mono ?_
    rintro e w' ⟨rfl, hb⟩
    exact ⟨0, 0, [], _, 10, none, 0, rfl, rfl, row_nil w w' hb⟩
  rw [if_neg h4]
  refine (decReply_ok b off cap l.length l most (vl l 8 4) (vl l 12 4) (vl l 16 4) w h rfl (by omega) h2' rfl rfl rfl b0 b1 b2 hm (by omega) (by omega) _ rfl _ rfl).mono ?_
  rintro e w' ⟨ao2, cap2, rfl, ho, hb⟩
  have hlen : ((l.drop 20).take (vl l 16 4)).length = vl l 16 4 := by rw [List.length_take, List.length_drop]; omega
  refine ⟨_, _, (l.drop 20).take (vl l 16 4), _, 0, ao2, cap2, by rw [hlen]; rfl, rfl, ?_, fun x hx => h.row.lt x (List.mem_of_mem_drop (List.mem_of_mem_take hx)), hb⟩
  rw [hlen]; exact ho
end Go.Proofs.Ytckfmpoddmccfaa
