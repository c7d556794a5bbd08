import Derived.Test.YtjhickfjagalfaaDoorV37
import Derived.Test.YtjhickfjagalfaaDoorV38
import Derived.Test.YtjhickfjagalfaaDoorV39
import Derived.Test.YtjhickfjagalfaaDoorV40
namespace Go.Proofs.YtjhickfjagalfaaDoor
open Go.RowKit
set_option linter.unusedVariables false
set_option linter.unusedSimpArgs false
set_option maxRecDepth 100000
theorem rdecGreetingA (ao : Option Addr) (cap : Nat) (l : List Nat) (w : World) (h : CRow w ao cap l) :
    Calls Tryd.prog 38 #[.slice ao l.length cap] w fun e w' => ∃ (f n er : Nat), e = .returned (.tuple #[.agg #[.int .u16 (f : Int)], .int .i64 (n : Int), .int .i64 (er : Int)]) ∧ greD l = (f, n, er) ∧ Below w.heap.size w w' := by
  unfold greD
  by_cases h1 : l.length < 18
  · rw [if_pos h1]
    refine (rdecGreeting_short ao cap l.length w h1).mono ?_
    rintro e w' ⟨rfl, hb⟩
    exact ⟨0, 18, 10, rfl, rfl, hb⟩
  rw [if_neg h1]
  obtain ⟨b, off, rfl⟩ := h.some (by omega)
  by_cases h2 : vl l 0 8 ≠ mInit
  · rw [if_pos h2]
    refine (rdecGreeting_magic1 b off cap l.length l (vl l 0 8) w h rfl (by omega) rfl h2).mono ?_
    rintro e w' ⟨rfl, hb⟩
    exact ⟨0, 0, 80, rfl, rfl, hb⟩
  rw [if_neg h2]
  have h2' : vl l 0 8 = mInit := Classical.byContradiction h2
  by_cases h3 : vl l 8 8 ≠ mHave
  · rw [if_pos h3]
    refine (rdecGreeting_magic2 b off cap l.length l (vl l 8 8) w h rfl (by omega) h2' rfl h3).mono ?_
    rintro e w' ⟨rfl, hb⟩
    exact ⟨0, 0, 80, rfl, rfl, hb⟩
  rw [if_neg h3]
  have h3' : vl l 8 8 = mHave := Classical.byContradiction h3
  refine (rdecGreeting_ok b off cap l.length l (vl l 16 2) w h rfl (by omega) h2' h3' rfl).mono ?_
  rintro e w' ⟨rfl, hb⟩
  exact ⟨_, 18, 0, rfl, rfl, hb⟩
theorem rdecFlagsA (ao : Option Addr) (cap : Nat) (l : List Nat) (w : World) (h : CRow w ao cap l) :
    Calls Tryd.prog 39 #[.slice ao l.length cap] w fun e w' => ∃ (f n er : Nat), e = .returned (.tuple #[.int .u32 (f : Int), .int .i64 (n : Int), .int .i64 (er : Int)]) ∧ flaD l = (f, n, er) ∧ Below w.heap.size w w' := by
  unfold flaD
  by_cases h1 : l.length < 4
  · rw [if_pos h1]
    refine (rdecFlags_short ao cap l.length w h1).mono ?_
    rintro e w' ⟨rfl, hb⟩
    exact ⟨0, 4, 10, rfl, rfl, hb⟩
  rw [if_neg h1]
  obtain ⟨b, off, rfl⟩ := h.some (by omega)
  refine (rdecFlags_ok b off cap l.length l (vl l 0 4) w h rfl (by omega) rfl).mono ?_
  rintro e w' ⟨rfl, hb⟩
  exact ⟨_, 4, 0, rfl, rfl, hb⟩
theorem rdecSimpleA (ao : Option Addr) (cap : Nat) (l : List Nat) (w : World) (h : CRow w ao cap l) :
    Calls Tryd.prog 41 #[.slice ao l.length cap] w fun e w' => ∃ (c k n er : Nat), e = .returned (.tuple #[.agg #[.int .u32 (c : Int), .int .u64 (k : Int)], .int .i64 (n : Int), .int .i64 (er : Int)]) ∧ simD l = ((c, k), n, er) ∧ Below w.heap.size w w' := by
  unfold simD
  by_cases h1 : l.length < 16
  · rw [if_pos h1]
    refine (rdecSimple_short ao cap l.length w h1).mono ?_
    rintro e w' ⟨rfl, hb⟩
    exact ⟨0, 0, 16, 10, rfl, rfl, hb⟩
  rw [if_neg h1]
  obtain ⟨b, off, rfl⟩ := h.some (by omega)
  by_cases h2 : vl l 0 4 ≠ mSimple
  · rw [if_pos h2]
    refine (rdecSimple_magic b off cap l.length l w h rfl (by omega) h2).mono ?_
    rintro e w' ⟨rfl, hb⟩
    exact ⟨0, 0, 0, 80, rfl, rfl, hb⟩
  rw [if_neg h2]
  have h2' : vl l 0 4 = mSimple := Classical.byContradiction h2
  refine (rdecSimple_ok b off cap l.length l (vl l 4 4) (vl l 8 8) w h rfl (by omega) h2' rfl rfl).mono ?_
  rintro e w' ⟨rfl, hb⟩
  exact ⟨_, _, 16, 0, rfl, rfl, hb⟩
theorem rdecOptionA (ao : Option Addr) (cap : Nat) (l : List Nat) (most : Nat) (w : World) (h : CRow w ao cap l) (hm : most < 4294967296) :
    Calls Tryd.prog 43 #[.slice ao l.length cap, .int .u32 (most : Int)] w fun e w' => ∃ (c k : Nat) (lg : Bool) (d : List Nat) (n er : Nat) (ao2 : Option Addr) (cap2 : Nat), e = .returned (.tuple #[.agg #[.int .u32 (c : Int), .int .u32 (k : Int), .bool lg, .slice ao2 d.length cap2], .int .i64 (n : Int), .int .i64 (er : Int)]) ∧ optD most l = ((c, k, lg, d), n, er) ∧ Row w w' ao2 cap2 d := by
  unfold optD
  by_cases h1 : l.length < 16
  · rw [if_pos h1]
    refine (rdecOption_short ao cap l.length most w h1).mono ?_
    rintro e w' ⟨rfl, hb⟩
    exact ⟨0, 0, false, [], 16, 10, none, 0, rfl, rfl, row_nil w w' hb⟩
  rw [if_neg h1]
  obtain ⟨b, off, rfl⟩ := h.some (by omega)
  by_cases h2 : vl l 0 8 ≠ mHave
  · rw [if_pos h2]
    refine (rdecOption_magic b off cap l.length l most (vl l 0 8) w h rfl (by omega) rfl h2).mono ?_
    rintro e w' ⟨rfl, hb⟩
    exact ⟨0, 0, false, [], 0, 80, none, 0, rfl, rfl, row_nil w w' hb⟩
  rw [if_neg h2]
  have h2' : vl l 0 8 = mHave := Classical.byContradiction h2
  have b0 : vl l 8 4 < 4294967296 := by simpa using vl_lt h 8 4
  have b1 : vl l 12 4 < 4294967296 := by simpa using vl_lt h 12 4
  by_cases h3 : most < vl l 12 4
  · rw [if_pos h3]
    refine (rdecOption_long b off cap l.length l most (vl l 8 4) (vl l 12 4) w h rfl (by omega) h2' rfl rfl b0 b1 hm h3).mono ?_
    rintro e w' ⟨ao2, cap2, rfl, hr⟩
    exact ⟨_, _, true, [], 16, 12, ao2, cap2, rfl, rfl, hr⟩
  rw [if_neg h3]
  by_cases h4 : l.length < 16 + vl l 12 4
  · rw [if_pos h4]
    refine (rdecOption_short2 b off cap l.length l most (vl l 8 4) (vl l 12 4) w h rfl (by omega) h2' rfl rfl b0 b1 hm (by omega) (by omega) _ rfl).mono ?_
    rintro e w' ⟨rfl, hb⟩
    exact ⟨0, 0, false, [], _, 10, none, 0, rfl, rfl, row_nil w w' hb⟩
  rw [if_neg h4]
  refine (rdecOption_ok b off cap l.length l most (vl l 8 4) (vl l 12 4) w h rfl (by omega) h2' rfl rfl b0 b1 hm (by omega) (by omega) _ rfl _ rfl).mono ?_
  rintro e w' ⟨ao2, cap2, rfl, ho, hb⟩
  have hlen : ((l.drop 16).take (vl l 12 4)).length = vl l 12 4 := by rw [List.length_take, List.length_drop]; omega
  refine ⟨_, _, false, (l.drop 16).take (vl l 12 4), _, 0, ao2, cap2, by rw [hlen]; rfl, rfl, ?_, fun x hx => h.row.lt x (List.mem_of_mem_drop (List.mem_of_mem_take hx)), hb⟩
  rw [hlen]; exact ho
theorem rdecReplyA (ao : Option Addr) (cap : Nat) (l : List Nat) (most : Nat) (w : World) (h : CRow w ao cap l) (hm : most < 4294967296) :
    Calls Tryd.prog 46 #[.slice ao l.length cap, .int .u32 (most : Int)] w fun e w' => ∃ (c k : Nat) (d : List Nat) (n er : Nat) (ao2 : Option Addr) (cap2 : Nat), e = .returned (.tuple #[.agg #[.int .u32 (c : Int), .int .u32 (k : Int), .slice ao2 d.length cap2], .int .i64 (n : Int), .int .i64 (er : Int)]) ∧ repD most l = ((c, k, d), n, er) ∧ Row w w' ao2 cap2 d := by
  unfold repD
  by_cases h1 : l.length < 20
  · rw [if_pos h1]
    refine (rdecReply_short ao cap l.length most w h1).mono ?_
    rintro e w' ⟨rfl, hb⟩
    exact ⟨0, 0, [], 20, 10, none, 0, rfl, rfl, row_nil w w' hb⟩
  rw [if_neg h1]
  obtain ⟨b, off, rfl⟩ := h.some (by omega)
  by_cases h2 : vl l 0 8 ≠ mReply
  · rw [if_pos h2]
    refine (rdecReply_magic b off cap l.length l most (vl l 0 8) w h rfl (by omega) rfl h2).mono ?_
    rintro e w' ⟨rfl, hb⟩
    exact ⟨0, 0, [], 0, 80, none, 0, rfl, rfl, row_nil w w' hb⟩
  rw [if_neg h2]
  have h2' : vl l 0 8 = mReply := Classical.byContradiction h2
  have b0 : vl l 8 4 < 4294967296 := by simpa using vl_lt h 8 4
  have b1 : vl l 12 4 < 4294967296 := by simpa using vl_lt h 12 4
  have b2 : vl l 16 4 < 4294967296 := by simpa using vl_lt h 16 4
  by_cases h3 : most < vl l 16 4
  · rw [if_pos h3]
    refine (rdecReply_long b off cap l.length l most (vl l 8 4) (vl l 12 4) (vl l 16 4) w h rfl (by omega) h2' rfl rfl rfl b0 b1 b2 hm h3).mono ?_
    rintro e w' ⟨ao2, cap2, rfl, hr⟩
    exact ⟨_, _, [], 20, 12, ao2, cap2, rfl, rfl, hr⟩
  rw [if_neg h3]
  by_cases h4 : l.length < 20 + vl l 16 4
  · rw [if_pos h4]
    refine (rdecReply_short2 b off cap l.length l most (vl l 8 4) (vl l 12 4) (vl l 16 4) w h rfl (by omega) h2' rfl rfl rfl b0 b1 b2 hm (by omega) (by omega) _ rfl).mono ?_
    rintro e w' ⟨rfl, hb⟩
    exact ⟨0, 0, [], _, 10, none, 0, rfl, rfl, row_nil w w' hb⟩
  rw [if_neg h4]
  refine (rdecReply_ok b off cap l.length l most (vl l 8 4) (vl l 12 4) (vl l 16 4) w h rfl (by omega) h2' rfl rfl rfl b0 b1 b2 hm (by omega) (by omega) _ rfl _ rfl).mono ?_
  rintro e w' ⟨ao2, cap2, rfl, ho, hb⟩
  have hlen : ((l.drop 20).take (vl l 16 4)).length = vl l 16 4 := by rw [List.length_take, List.length_drop]; omega
  refine ⟨_, _, (l.drop 20).take (vl l 16 4), _, 0, ao2, cap2, by rw [hlen]; rfl, rfl, ?_, fun x hx => h.row.lt x (List.mem_of_mem_drop (List.mem_of_mem_take hx)), hb⟩
  rw [hlen]; exact ho
theorem rdecRequestA0 (ao : Option Addr) (cap : Nat) (l : List Nat) (most : Nat) (w : World) (h : CRow w ao cap l) (hm : most < 4294967296) :
    Calls Tryd.prog 49 #[.slice ao l.length cap, .int .u32 (most : Int), .bool false] w fun e w' => ∃ (f t c o k : Nat) (d : List Nat) (n er : Nat) (ao2 : Option Addr) (cap2 : Nat), e = .returned (.tuple #[.agg #[.int .u16 (f : Int), .int .u16 (t : Int), .int .u64 (c : Int), .int .u64 (o : Int), .int .u64 (k : Int), .slice ao2 d.length cap2], .int .i64 (n : Int), .int .i64 (er : Int)]) ∧ reqD most false l = ((f, t, c, o, k, d), n, er) ∧ Row w w' ao2 cap2 d := by
  unfold reqD
  rw [show qz false = 28 from rfl, show qm false = mReq from rfl, show qk false = 4 from rfl]
  by_cases h1 : l.length < 28
  · rw [if_pos h1]
    refine (rdecRequest0_short ao cap l.length most w h1).mono ?_
    rintro e w' ⟨rfl, hb⟩
    exact ⟨0, 0, 0, 0, 0, [], 28, 10, none, 0, rfl, rfl, row_nil w w' hb⟩
  rw [if_neg h1]
  obtain ⟨b, off, rfl⟩ := h.some (by omega)
  by_cases h2 : vl l 0 4 ≠ mReq
  · rw [if_pos h2]
    refine (rdecRequest0_magic b off cap l.length l most w h rfl (by omega) h2).mono ?_
    rintro e w' ⟨rfl, hb⟩
    exact ⟨0, 0, 0, 0, 0, [], 0, 80, none, 0, rfl, rfl, row_nil w w' hb⟩
  rw [if_neg h2]
  have h2' : vl l 0 4 = mReq := Classical.byContradiction h2
  have b0 : vl l 24 4 < 4294967296 := by simpa using vl_lt h 24 4
  by_cases hp : payB (vl l 4 2) (vl l 6 2) false = false
  · rw [if_pos hp]
    refine (rdecRequest0_plain b off cap l.length l most (vl l 4 2) (vl l 6 2) (vl l 8 8) (vl l 16 8) (vl l 24 4) w h rfl (by omega) h2' rfl rfl rfl rfl rfl (Nat.lt_of_lt_of_le b0 (by decide)) hm hp).mono ?_
    rintro e w' ⟨ao2, cap2, rfl, hr⟩
    exact ⟨_, _, _, _, _, [], 28, 0, ao2, cap2, rfl, rfl, hr⟩
  rw [if_neg hp]
  have hp' : payB (vl l 4 2) (vl l 6 2) false = true := by simpa using hp
  by_cases h3 : most < vl l 24 4
  · rw [if_pos h3]
    refine (rdecRequest0_long b off cap l.length l most (vl l 4 2) (vl l 6 2) (vl l 8 8) (vl l 16 8) (vl l 24 4) w h rfl (by omega) h2' rfl rfl rfl rfl rfl (Nat.lt_of_lt_of_le b0 (by decide)) hm hp' h3).mono ?_
    rintro e w' ⟨ao2, cap2, rfl, hr⟩
    exact ⟨_, _, _, _, _, [], 28, 12, ao2, cap2, rfl, rfl, hr⟩
  rw [if_neg h3]
  by_cases h4 : l.length < 28 + vl l 24 4
  · rw [if_pos h4]
    refine (rdecRequest0_short2 b off cap l.length l most (vl l 4 2) (vl l 6 2) (vl l 8 8) (vl l 16 8) (vl l 24 4) w h rfl (by omega) h2' rfl rfl rfl rfl rfl (Nat.lt_of_lt_of_le b0 (by decide)) hm hp' (by omega) (by omega) _ rfl).mono ?_
    rintro e w' ⟨rfl, hb⟩
    exact ⟨0, 0, 0, 0, 0, [], _, 10, none, 0, rfl, rfl, row_nil w w' hb⟩
  rw [if_neg h4]
  refine (rdecRequest0_ok b off cap l.length l most (vl l 4 2) (vl l 6 2) (vl l 8 8) (vl l 16 8) (vl l 24 4) w h rfl (by omega) h2' rfl rfl rfl rfl rfl (Nat.lt_of_lt_of_le b0 (by decide)) hm hp' (by omega) (by omega) _ rfl _ rfl).mono ?_
  rintro e w' ⟨ao2, cap2, rfl, ho, hb⟩
  have hlen : ((l.drop 28).take (vl l 24 4)).length = vl l 24 4 := by rw [List.length_take, List.length_drop]; omega
  refine ⟨_, _, _, _, _, (l.drop 28).take (vl l 24 4), _, 0, ao2, cap2, by rw [hlen]; rfl, rfl, ?_, fun x hx => h.row.lt x (List.mem_of_mem_drop (List.mem_of_mem_take hx)), hb⟩
  rw [hlen]; exact ho
theorem rdecRequestA1 (ao : Option Addr) (cap : Nat) (l : List Nat) (most : Nat) (w : World) (h : CRow w ao cap l) (hm : most < 4294967296) :
    Calls Tryd.prog 49 #[.slice ao l.length cap, .int .u32 (most : Int), .bool true] w fun e w' => ∃ (f t c o k : Nat) (d : List Nat) (n er : Nat) (ao2 : Option Addr) (cap2 : Nat), e = .returned (.tuple #[.agg #[.int .u16 (f : Int), .int .u16 (t : Int), .int .u64 (c : Int), .int .u64 (o : Int), .int .u64 (k : Int), .slice ao2 d.length cap2], .int .i64 (n : Int), .int .i64 (er : Int)]) ∧ reqD most true l = ((f, t, c, o, k, d), n, er) ∧ Row w w' ao2 cap2 d := by
  unfold reqD
  rw [show qz true = 32 from rfl, show qm true = mReq64 from rfl, show qk true = 8 from rfl]
  by_cases h1 : l.length < 32
  · rw [if_pos h1]
    refine (rdecRequest1_short ao cap l.length most w h1).mono ?_
    rintro e w' ⟨rfl, hb⟩
    exact ⟨0, 0, 0, 0, 0, [], 32, 10, none, 0, rfl, rfl, row_nil w w' hb⟩
  rw [if_neg h1]
  obtain ⟨b, off, rfl⟩ := h.some (by omega)
  by_cases h2 : vl l 0 4 ≠ mReq64
  · rw [if_pos h2]
    refine (rdecRequest1_magic b off cap l.length l most w h rfl (by omega) h2).mono ?_
    rintro e w' ⟨rfl, hb⟩
    exact ⟨0, 0, 0, 0, 0, [], 0, 80, none, 0, rfl, rfl, row_nil w w' hb⟩
  rw [if_neg h2]
  have h2' : vl l 0 4 = mReq64 := Classical.byContradiction h2
  have b0 : vl l 24 8 < 18446744073709551616 := by simpa using vl_lt h 24 8
  by_cases hp : payB (vl l 4 2) (vl l 6 2) true = false
  · rw [if_pos hp]
    refine (rdecRequest1_plain b off cap l.length l most (vl l 4 2) (vl l 6 2) (vl l 8 8) (vl l 16 8) (vl l 24 8) w h rfl (by omega) h2' rfl rfl rfl rfl rfl (Nat.lt_of_lt_of_le b0 (by decide)) hm hp).mono ?_
    rintro e w' ⟨ao2, cap2, rfl, hr⟩
    exact ⟨_, _, _, _, _, [], 32, 0, ao2, cap2, rfl, rfl, hr⟩
  rw [if_neg hp]
  have hp' : payB (vl l 4 2) (vl l 6 2) true = true := by simpa using hp
  by_cases h3 : most < vl l 24 8
  · rw [if_pos h3]
    refine (rdecRequest1_long b off cap l.length l most (vl l 4 2) (vl l 6 2) (vl l 8 8) (vl l 16 8) (vl l 24 8) w h rfl (by omega) h2' rfl rfl rfl rfl rfl (Nat.lt_of_lt_of_le b0 (by decide)) hm hp' h3).mono ?_
    rintro e w' ⟨ao2, cap2, rfl, hr⟩
    exact ⟨_, _, _, _, _, [], 32, 12, ao2, cap2, rfl, rfl, hr⟩
  rw [if_neg h3]
  by_cases h4 : l.length < 32 + vl l 24 8
  · rw [if_pos h4]
    refine (rdecRequest1_short2 b off cap l.length l most (vl l 4 2) (vl l 6 2) (vl l 8 8) (vl l 16 8) (vl l 24 8) w h rfl (by omega) h2' rfl rfl rfl rfl rfl (Nat.lt_of_lt_of_le b0 (by decide)) hm hp' (by omega) (by omega) _ rfl).mono ?_
    rintro e w' ⟨rfl, hb⟩
    exact ⟨0, 0, 0, 0, 0, [], _, 10, none, 0, rfl, rfl, row_nil w w' hb⟩
  rw [if_neg h4]
  refine (rdecRequest1_ok b off cap l.length l most (vl l 4 2) (vl l 6 2) (vl l 8 8) (vl l 16 8) (vl l 24 8) w h rfl (by omega) h2' rfl rfl rfl rfl rfl (Nat.lt_of_lt_of_le b0 (by decide)) hm hp' (by omega) (by omega) _ rfl _ rfl).mono ?_
  rintro e w' ⟨ao2, cap2, rfl, ho, hb⟩
  have hlen : ((l.drop 32).take (vl l 24 8)).length = vl l 24 8 := by rw [List.length_take, List.length_drop]; omega
  refine ⟨_, _, _, _, _, (l.drop 32).take (vl l 24 8), _, 0, ao2, cap2, by rw [hlen]; rfl, rfl, ?_, fun x hx => h.row.lt x (List.mem_of_mem_drop (List.mem_of_mem_take hx)), hb⟩
  rw [hlen]; exact ho
theorem rdecRequestA (ao : Option Addr) (cap : Nat) (l : List Nat) (most : Nat) (ext : Bool) (w : World) (h : CRow w ao cap l) (hm : most < 4294967296) :
    Calls Tryd.prog 49 #[.slice ao l.length cap, .int .u32 (most : Int), .bool ext] w fun e w' => ∃ (f t c o k : Nat) (d : List Nat) (n er : Nat) (ao2 : Option Addr) (cap2 : Nat), e = .returned (.tuple #[.agg #[.int .u16 (f : Int), .int .u16 (t : Int), .int .u64 (c : Int), .int .u64 (o : Int), .int .u64 (k : Int), .slice ao2 d.length cap2], .int .i64 (n : Int), .int .i64 (er : Int)]) ∧ reqD most ext l = ((f, t, c, o, k, d), n, er) ∧ Row w w' ao2 cap2 d := by
  cases ext with
  | false => exact rdecRequestA0 ao cap l most w h hm
  | true => exact rdecRequestA1 ao cap l most w h hm
theorem rdecChunkA0 (ao : Option Addr) (cap : Nat) (l : List Nat) (most : Nat) (w : World) (h : CRow w ao cap l) (hm : most < 4294967296) :
    Calls Tryd.prog 52 #[.slice ao l.length cap, .int .u32 (most : Int), .bool false] w fun e w' => ∃ (f t c o : Nat) (d : List Nat) (n er : Nat) (ao2 : Option Addr) (cap2 : Nat), e = .returned (.tuple #[.agg #[.int .u16 (f : Int), .int .u16 (t : Int), .int .u64 (c : Int), .int .u64 (o : Int), .slice ao2 d.length cap2], .int .i64 (n : Int), .int .i64 (er : Int)]) ∧ chkD most false l = ((f, t, c, o, d), n, er) ∧ Row w w' ao2 cap2 d := by
  unfold chkD
  rw [show cz false = 20 from rfl, show cm false = mChunk from rfl, show cof false l = 0 from rfl, show cln false l = vl l 16 4 from rfl]
  by_cases h1 : l.length < 20
  · rw [if_pos h1]
    refine (rdecChunk0_short ao cap l.length most w h1).mono ?_
    rintro e w' ⟨rfl, hb⟩
    exact ⟨0, 0, 0, 0, [], 20, 10, none, 0, rfl, rfl, row_nil w w' hb⟩
  rw [if_neg h1]
  obtain ⟨b, off, rfl⟩ := h.some (by omega)
  by_cases h2 : vl l 0 4 ≠ mChunk
  · rw [if_pos h2]
    refine (rdecChunk0_magic b off cap l.length l most w h rfl (by omega) h2).mono ?_
    rintro e w' ⟨rfl, hb⟩
    exact ⟨0, 0, 0, 0, [], 0, 80, none, 0, rfl, rfl, row_nil w w' hb⟩
  rw [if_neg h2]
  have h2' : vl l 0 4 = mChunk := Classical.byContradiction h2
  have b0 : vl l 16 4 < 4294967296 := by simpa using vl_lt h 16 4
  by_cases h3 : most < vl l 16 4
  · rw [if_pos h3]
    refine (rdecChunk0_long b off cap l.length l most (vl l 4 2) (vl l 6 2) (vl l 8 8) (vl l 16 4) w h rfl (by omega) h2' rfl rfl rfl rfl (Nat.lt_of_lt_of_le b0 (by decide)) hm h3).mono ?_
    rintro e w' ⟨ao2, cap2, rfl, hr⟩
    exact ⟨_, _, _, 0, [], 20, 12, ao2, cap2, rfl, rfl, hr⟩
  rw [if_neg h3]
  by_cases h4 : l.length < 20 + vl l 16 4
  · rw [if_pos h4]
    refine (rdecChunk0_short2 b off cap l.length l most (vl l 4 2) (vl l 6 2) (vl l 8 8) (vl l 16 4) w h rfl (by omega) h2' rfl rfl rfl rfl (Nat.lt_of_lt_of_le b0 (by decide)) hm (by omega) (by omega) _ rfl).mono ?_
    rintro e w' ⟨rfl, hb⟩
    exact ⟨0, 0, 0, 0, [], _, 10, none, 0, rfl, rfl, row_nil w w' hb⟩
  rw [if_neg h4]
  refine (rdecChunk0_ok b off cap l.length l most (vl l 4 2) (vl l 6 2) (vl l 8 8) (vl l 16 4) w h rfl (by omega) h2' rfl rfl rfl rfl (Nat.lt_of_lt_of_le b0 (by decide)) hm (by omega) (by omega) _ rfl _ rfl).mono ?_
  rintro e w' ⟨ao2, cap2, rfl, ho, hb⟩
  have hlen : ((l.drop 20).take (vl l 16 4)).length = vl l 16 4 := by rw [List.length_take, List.length_drop]; omega
  refine ⟨_, _, _, 0, (l.drop 20).take (vl l 16 4), _, 0, ao2, cap2, by rw [hlen]; rfl, rfl, ?_, fun x hx => h.row.lt x (List.mem_of_mem_drop (List.mem_of_mem_take hx)), hb⟩
  rw [hlen]; exact ho
theorem rdecChunkA1 (ao : Option Addr) (cap : Nat) (l : List Nat) (most : Nat) (w : World) (h : CRow w ao cap l) (hm : most < 4294967296) :
    Calls Tryd.prog 52 #[.slice ao l.length cap, .int .u32 (most : Int), .bool true] w fun e w' => ∃ (f t c o : Nat) (d : List Nat) (n er : Nat) (ao2 : Option Addr) (cap2 : Nat), e = .returned (.tuple #[.agg #[.int .u16 (f : Int), .int .u16 (t : Int), .int .u64 (c : Int), .int .u64 (o : Int), .slice ao2 d.length cap2], .int .i64 (n : Int), .int .i64 (er : Int)]) ∧ chkD most true l = ((f, t, c, o, d), n, er) ∧ Row w w' ao2 cap2 d := by
  unfold chkD
  rw [show cz true = 32 from rfl, show cm true = mChunk64 from rfl, show cof true l = vl l 16 8 from rfl, show cln true l = vl l 24 8 from rfl]
  by_cases h1 : l.length < 32
  · rw [if_pos h1]
    refine (rdecChunk1_short ao cap l.length most w h1).mono ?_
    rintro e w' ⟨rfl, hb⟩
    exact ⟨0, 0, 0, 0, [], 32, 10, none, 0, rfl, rfl, row_nil w w' hb⟩
  rw [if_neg h1]
  obtain ⟨b, off, rfl⟩ := h.some (by omega)
  by_cases h2 : vl l 0 4 ≠ mChunk64
  · rw [if_pos h2]
    refine (rdecChunk1_magic b off cap l.length l most w h rfl (by omega) h2).mono ?_
    rintro e w' ⟨rfl, hb⟩
    exact ⟨0, 0, 0, 0, [], 0, 80, none, 0, rfl, rfl, row_nil w w' hb⟩
  rw [if_neg h2]
  have h2' : vl l 0 4 = mChunk64 := Classical.byContradiction h2
  have b0 : vl l 24 8 < 18446744073709551616 := by simpa using vl_lt h 24 8
  by_cases h3 : most < vl l 24 8
  · rw [if_pos h3]
    refine (rdecChunk1_long b off cap l.length l most (vl l 4 2) (vl l 6 2) (vl l 8 8) (vl l 16 8) (vl l 24 8) w h rfl (by omega) h2' rfl rfl rfl rfl rfl (Nat.lt_of_lt_of_le b0 (by decide)) hm h3).mono ?_
    rintro e w' ⟨ao2, cap2, rfl, hr⟩
    exact ⟨_, _, _, _, [], 32, 12, ao2, cap2, rfl, rfl, hr⟩
  rw [if_neg h3]
  by_cases h4 : l.length < 32 + vl l 24 8
  · rw [if_pos h4]
    refine (rdecChunk1_short2 b off cap l.length l most (vl l 4 2) (vl l 6 2) (vl l 8 8) (vl l 16 8) (vl l 24 8) w h rfl (by omega) h2' rfl rfl rfl rfl rfl (Nat.lt_of_lt_of_le b0 (by decide)) hm (by omega) (by omega) _ rfl).mono ?_
    rintro e w' ⟨rfl, hb⟩
    exact ⟨0, 0, 0, 0, [], _, 10, none, 0, rfl, rfl, row_nil w w' hb⟩
  rw [if_neg h4]
  refine (rdecChunk1_ok b off cap l.length l most (vl l 4 2) (vl l 6 2) (vl l 8 8) (vl l 16 8) (vl l 24 8) w h rfl (by omega) h2' rfl rfl rfl rfl rfl (Nat.lt_of_lt_of_le b0 (by decide)) hm (by omega) (by omega) _ rfl _ rfl).mono ?_
  rintro e w' ⟨ao2, cap2, rfl, ho, hb⟩
  have hlen : ((l.drop 32).take (vl l 24 8)).length = vl l 24 8 := by rw [List.length_take, List.length_drop]; omega
  refine ⟨_, _, _, _, (l.drop 32).take (vl l 24 8), _, 0, ao2, cap2, by rw [hlen]; rfl, rfl, ?_, fun x hx => h.row.lt x (List.mem_of_mem_drop (List.mem_of_mem_take hx)), hb⟩
  rw [hlen]; exact ho
theorem rdecChunkA (ao : Option Addr) (cap : Nat) (l : List Nat) (most : Nat) (ext : Bool) (w : World) (h : CRow w ao cap l) (hm : most < 4294967296) :
    Calls Tryd.prog 52 #[.slice ao l.length cap, .int .u32 (most : Int), .bool ext] w fun e w' => ∃ (f t c o : Nat) (d : List Nat) (n er : Nat) (ao2 : Option Addr) (cap2 : Nat), e = .returned (.tuple #[.agg #[.int .u16 (f : Int), .int .u16 (t : Int), .int .u64 (c : Int), .int .u64 (o : Int), .slice ao2 d.length cap2], .int .i64 (n : Int), .int .i64 (er : Int)]) ∧ chkD most ext l = ((f, t, c, o, d), n, er) ∧ Row w w' ao2 cap2 d := by
  cases ext with
  | false => exact rdecChunkA0 ao cap l most w h hm
  | true => exact rdecChunkA1 ao cap l most w h hm
theorem rdecExportA0 (ao : Option Addr) (cap : Nat) (l : List Nat) (w : World) (h : CRow w ao cap l) :
    Calls Tryd.prog 40 #[.slice ao l.length cap, .bool false] w fun e w' => ∃ (s f n er : Nat), e = .returned (.tuple #[.agg #[.int .u64 (s : Int), .int .u16 (f : Int)], .int .i64 (n : Int), .int .i64 (er : Int)]) ∧ expD false l = ((s, f), n, er) ∧ Below w.heap.size w w' := by
  have hz : xz false = 10 := rfl
  unfold expD
  rw [hz]
  by_cases h1 : l.length < 10
  · rw [if_pos h1]
    refine (rdecExport0_short ao cap l.length w h1).mono ?_
    rintro e w' ⟨rfl, hb⟩
    exact ⟨0, 0, 10, 10, rfl, rfl, hb⟩
  rw [if_neg h1]
  obtain ⟨b, off, rfl⟩ := h.some (by omega)
  by_cases h2 : xzs false l = false
  · rw [if_pos h2]
    have h3 : ∃ x ∈ (l.take 10).drop 10, x ≠ 0 := by
      unfold xzs at h2
      rw [hz, List.all_eq_false] at h2
      obtain ⟨x, hx, hx0⟩ := h2
      exact ⟨x, hx, by simpa using hx0⟩
    refine (rdecExport0_form b off cap l.length l w h rfl (by omega) h3).mono ?_
    rintro e w' ⟨rfl, hb⟩
    exact ⟨0, 0, 0, 81, rfl, rfl, hb⟩
  rw [if_neg h2]
  have h3 : ∀ x ∈ (l.take 10).drop 10, x = 0 := fun x hx => by
    have h2' : xzs false l = true := by simpa using h2
    unfold xzs at h2'
    rw [hz, List.all_eq_true] at h2'
    simpa using h2' x hx
  refine (rdecExport0_ok b off cap l.length l (vl l 0 8) (vl l 8 2) w h rfl (by omega) rfl rfl h3).mono ?_
  rintro e w' ⟨rfl, hb⟩
  exact ⟨_, _, 10, 0, rfl, rfl, hb⟩
theorem rdecExportA1 (ao : Option Addr) (cap : Nat) (l : List Nat) (w : World) (h : CRow w ao cap l) :
    Calls Tryd.prog 40 #[.slice ao l.length cap, .bool true] w fun e w' => ∃ (s f n er : Nat), e = .returned (.tuple #[.agg #[.int .u64 (s : Int), .int .u16 (f : Int)], .int .i64 (n : Int), .int .i64 (er : Int)]) ∧ expD true l = ((s, f), n, er) ∧ Below w.heap.size w w' := by
  have hz : xz true = 134 := rfl
  unfold expD
  rw [hz]
  by_cases h1 : l.length < 134
  · rw [if_pos h1]
    refine (rdecExport1_short ao cap l.length w h1).mono ?_
    rintro e w' ⟨rfl, hb⟩
    exact ⟨0, 0, 134, 10, rfl, rfl, hb⟩
  rw [if_neg h1]
  obtain ⟨b, off, rfl⟩ := h.some (by omega)
  by_cases h2 : xzs true l = false
  · rw [if_pos h2]
    have h3 : ∃ x ∈ (l.take 134).drop 10, x ≠ 0 := by
      unfold xzs at h2
      rw [hz, List.all_eq_false] at h2
      obtain ⟨x, hx, hx0⟩ := h2
      exact ⟨x, hx, by simpa using hx0⟩
    refine (rdecExport1_form b off cap l.length l w h rfl (by omega) h3).mono ?_
    rintro e w' ⟨rfl, hb⟩
    exact ⟨0, 0, 0, 81, rfl, rfl, hb⟩
  rw [if_neg h2]
  have h3 : ∀ x ∈ (l.take 134).drop 10, x = 0 := fun x hx => by
    have h2' : xzs true l = true := by simpa using h2
    unfold xzs at h2'
    rw [hz, List.all_eq_true] at h2'
    simpa using h2' x hx
  refine (rdecExport1_ok b off cap l.length l (vl l 0 8) (vl l 8 2) w h rfl (by omega) rfl rfl h3).mono ?_
  rintro e w' ⟨rfl, hb⟩
  exact ⟨_, _, 134, 0, rfl, rfl, hb⟩
theorem rdecExportA (ao : Option Addr) (cap : Nat) (l : List Nat) (z : Bool) (w : World) (h : CRow w ao cap l) :
    Calls Tryd.prog 40 #[.slice ao l.length cap, .bool z] w fun e w' => ∃ (s f n er : Nat), e = .returned (.tuple #[.agg #[.int .u64 (s : Int), .int .u16 (f : Int)], .int .i64 (n : Int), .int .i64 (er : Int)]) ∧ expD z l = ((s, f), n, er) ∧ Below w.heap.size w w' := by
  cases z with
  | false => exact rdecExportA0 ao cap l w h
  | true => exact rdecExportA1 ao cap l w h
end Go.Proofs.YtjhickfjagalfaaDoor
