import Derived.Test.YtckfmpoddmccfaaV13
import Derived.Test.YtckfmpoddmccfaaV15
import Derived.Test.YtckfmpoddmccfaaV16
import Derived.Test.YtckfmpoddmccfaaV17
import Derived.Test.YtckfmpoddmccfaaV18
import Derived.Test.YtckfmpoddmccfaaV19
namespace Go.Proofs.Ytckfmpoddmccfaa
open Go.RowKit
set_option linter.unusedVariables false
set_option linter.unusedSimpArgs false
set_option maxRecDepth 100000
theorem decRequestA0 (ao : Option Addr) (cap : Nat) (l : List Nat) (most : Nat) (w : World) (h : CRow w ao cap l) (hm : most < 4294967296) :
    Calls Try.prog 78 #[.slice ao l.length cap, .int .u32 (most : Int), .bool false] w fun e w' => ∃ (f t c o k : Nat) (d : List Nat) (n er : Nat) (ao2 : Option Addr) (cap2 : Nat), e = .returned (.tuple #[.agg #[.int .u16 (f : Int), .int .u16 (t : Int), .int .u64 (c : Int), .int .u64 (o : Int), .int .u64 (k : Int), .slice ao2 d.length cap2], .int .i64 (n : Int), .int .i64 (er : Int)]) ∧ reqD most false l = ((f, t, c, o, k, d), n, er) ∧ Row w w' ao2 cap2 d := by
  unfold reqD
  rw [show qz false = 28 from rfl, show qm false = mReq from rfl, show qk false = 4 from rfl]
  by_cases h1 : l.length < 28
  · rw [if_pos h1]
    refine (decRequest0_short ao cap l.length most w h1).mono ?_
    rintro e w' ⟨rfl, hb⟩
    exact ⟨0, 0, 0, 0, 0, [], 28, 10, none, 0, rfl, rfl, row_nil w w' hb⟩
  rw [if_neg h1]
  obtain ⟨b, off, rfl⟩ := h.some (by omega)
  by_cases h2 : vl l 0 4 ≠ mReq
  · rw [if_pos h2]
    refine (decRequest0_magic b off cap l.length l most w h rfl (by omega) h2).mono ?_
    rintro e w' ⟨rfl, hb⟩
    exact ⟨0, 0, 0, 0, 0, [], 0, 80, none, 0, rfl, rfl, row_nil w w' hb⟩
  rw [if_neg h2]
  have h2' : vl l 0 4 = mReq := Classical.byContradiction h2
  have b0 : vl l 24 4 < 4294967296 := by simpa using vl_lt h 24 4
  by_cases hp : payB (vl l 4 2) (vl l 6 2) false = false
  · rw [if_pos hp]
    refine (decRequest0_plain b off cap l.length l most (vl l 4 2) (vl l 6 2) (vl l 8 8) (vl l 16 8) (vl l 24 4) w h rfl (by omega) h2' rfl rfl rfl rfl rfl (Nat.lt_of_lt_of_le b0 (by decide)) hm hp).mono ?_
    rintro e w' ⟨ao2, cap2, rfl, hr⟩
    exact ⟨_, _, _, _, _, [], 28, 0, ao2, cap2, rfl, rfl, hr⟩
  rw [if_neg hp]
  have hp' : payB (vl l 4 2) (vl l 6 2) false = true := by simpa using hp
  by_cases h3 : most < vl l 24 4
  · rw [if_pos h3]
    refine (decRequest0_long b off cap l.length l most (vl l 4 2) (vl l 6 2) (vl l 8 8) (vl l 16 8) (vl l 24 4) w h rfl (by omega) h2' rfl rfl rfl rfl rfl (Nat.lt_of_lt_of_le b0 (by decide)) hm hp' h3).mono ?_
    rintro e w' ⟨ao2, cap2, rfl, hr⟩
    exact ⟨_, _, _, _, _, [], 28, 12, ao2, cap2, rfl, rfl, hr⟩
  rw [if_neg h3]
  by_cases h4 : l.length < 28 + vl l 24 4
  · rw [if_pos h4]
    refine (decRequest0_short2 b off cap l.length l most (vl l 4 2) (vl l 6 2) (vl l 8 8) (vl l 16 8) (vl l 24 4) w h rfl (by omega) h2' rfl rfl rfl rfl rfl (Nat.lt_of_lt_of_le b0 (by decide)) hm hp' (by omega) (by omega) _ rfl).mono ?_
    rintro e w' ⟨rfl, hb⟩
    exact ⟨0, 0, 0, 0, 0, [], _, 10, none, 0, rfl, rfl, row_nil w w' hb⟩
  rw [if_neg h4]
  refine (decRequest0_ok b off cap l.length l most (vl l 4 2) (vl l 6 2) (vl l 8 8) (vl l 16 8) (vl l 24 4) w h rfl (by omega) h2' rfl rfl rfl rfl rfl (Nat.lt_of_lt_of_le b0 (by decide)) hm hp' (by omega) (by omega) _ rfl _ rfl).mono ?_
  rintro e w' ⟨ao2, cap2, rfl, ho, hb⟩
  have hlen : ((l.drop 28).take (vl l 24 4)).length = vl l 24 4 := by rw [List.length_take, List.length_drop]; omega
  refine ⟨_, _, _, _, _, (l.drop 28).take (vl l 24 4), _, 0, ao2, cap2, by rw [hlen]; rfl, rfl, ?_, fun x hx => h.row.lt x (List.mem_of_mem_drop (List.mem_of_mem_take hx)), hb⟩
  rw [hlen]; exact ho
theorem decRequestA1 (ao : Option Addr) (cap : Nat) (l : List Nat) (most : Nat) (w : World) (h : CRow w ao cap l) (hm : most < 4294967296) :
    Calls Try.prog 78 #[.slice ao l.length cap, .int .u32 (most : Int), .bool true] w fun e w' => ∃ (f t c o k : Nat) (d : List Nat) (n er : Nat) (ao2 : Option Addr) (cap2 : Nat), e = .returned (.tuple #[.agg #[.int .u16 (f : Int), .int .u16 (t : Int), .int .u64 (c : Int), .int .u64 (o : Int), .int .u64 (k : Int), .slice ao2 d.length cap2], .int .i64 (n : Int), .int .i64 (er : Int)]) ∧ reqD most true l = ((f, t, c, o, k, d), n, er) ∧ Row w w' ao2 cap2 d := by
  unfold reqD
  rw [show qz true = 32 from rfl, show qm true = mReq64 from rfl, show qk true = 8 from rfl]
  by_cases h1 : l.length < 32
  · rw [if_pos h1]
    refine (decRequest1_short ao cap l.length most w h1).mono ?_
    rintro e w' ⟨rfl, hb⟩
    exact ⟨0, 0, 0, 0, 0, [], 32, 10, none, 0, rfl, rfl, row_nil w w' hb⟩
  rw [if_neg h1]
  obtain ⟨b, off, rfl⟩ := h.some (by omega)
  by_cases h2 : vl l 0 4 ≠ mReq64
  · rw [if_pos h2]
    refine (decRequest1_magic b off cap l.length l most w h rfl (by omega) h2).mono ?_
    rintro e w' ⟨rfl, hb⟩
    exact ⟨0, 0, 0, 0, 0, [], 0, 80, none, 0, rfl, rfl, row_nil w w' hb⟩
  rw [if_neg h2]
  have h2' : vl l 0 4 = mReq64 := Classical.byContradiction h2
  have b0 : vl l 24 8 < 18446744073709551616 := by simpa using vl_lt h 24 8
  by_cases hp : payB (vl l 4 2) (vl l 6 2) true = false
  · rw [if_pos hp]
    refine (decRequest1_plain b off cap l.length l most (vl l 4 2) (vl l 6 2) (vl l 8 8) (vl l 16 8) (vl l 24 8) w h rfl (by omega) h2' rfl rfl rfl rfl rfl (Nat.lt_of_lt_of_le b0 (by decide)) hm hp).mono ?_
    rintro e w' ⟨ao2, cap2, rfl, hr⟩
    exact ⟨_, _, _, _, _, [], 32, 0, ao2, cap2, rfl, rfl, hr⟩
  rw [if_neg hp]
  have hp' : payB (vl l 4 2) (vl l 6 2) true = true := by simpa using hp
  by_cases h3 : most < vl l 24 8
  · rw [if_pos h3]
    refine (decRequest1_long b off cap l.length l most (vl l 4 2) (vl l 6 2) (vl l 8 8) (vl l 16 8) (vl l 24 8) w h rfl (by omega) h2' rfl rfl rfl rfl rfl (Nat.lt_of_lt_of_le b0 (by decide)) hm hp' h3).mono ?_
    rintro e w' ⟨ao2, cap2, rfl, hr⟩
    exact ⟨_, _, _, _, _, [], 32, 12, ao2, cap2, rfl, rfl, hr⟩
  rw [if_neg h3]
  by_cases h4 : l.length < 32 + vl l 24 8
  · rw [if_pos h4]
    refine (decRequest1_short2 b off cap l.length l most (vl l 4 2) (vl l 6 2) (vl l 8 8) (vl l 16 8) (vl l 24 8) w h rfl (by omega) h2' rfl rfl rfl rfl rfl (Nat.lt_of_lt_of_le b0 (by decide)) hm hp' (by omega) (by omega) _ rfl).mono ?_
    rintro e w' ⟨rfl, hb⟩
    exact ⟨0, 0, 0, 0, 0, [], _, 10, none, 0, rfl, rfl, row_nil w w' hb⟩
  rw [if_neg h4]
  refine (decRequest1_ok b off cap l.length l most (vl l 4 2) (vl l 6 2) (vl l 8 8) (vl l 16 8) (vl l 24 8) w h rfl (by omega) h2' rfl rfl rfl rfl rfl (Nat.lt_of_lt_of_le b0 (by decide)) hm hp' (by omega) (by omega) _ rfl _ rfl).mono ?_
  rintro e w' ⟨ao2, cap2, rfl, ho, hb⟩
  have hlen : ((l.drop 32).take (vl l 24 8)).length = vl l 24 8 := by rw [List.length_take, List.length_drop]; omega
  refine ⟨_, _, _, _, _, (l.drop 32).take (vl l 24 8), _, 0, ao2, cap2, by rw [hlen]; rfl, rfl, ?_, fun x hx => h.row.lt x (List.mem_of_mem_drop (List.mem_of_mem_take hx)), hb⟩
  rw [hlen]; exact ho
theorem decRequestA (ao : Option Addr) (cap : Nat) (l : List Nat) (most : Nat) (ext : Bool) (w : World) (h : CRow w ao cap l) (hm : most < 4294967296) :
    Calls Try.prog 78 #[.slice ao l.length cap, .int .u32 (most : Int), .bool ext] w fun e w' => ∃ (f t c o k : Nat) (d : List Nat) (n er : Nat) (ao2 : Option Addr) (cap2 : Nat), e = .returned (.tuple #[.agg #[.int .u16 (f : Int), .int .u16 (t : Int), .int .u64 (c : Int), .int .u64 (o : Int), .int .u64 (k : Int), .slice ao2 d.length cap2], .int .i64 (n : Int), .int .i64 (er : Int)]) ∧ reqD most ext l = ((f, t, c, o, k, d), n, er) ∧ Row w w' ao2 cap2 d := by
  cases ext with
  | false => exact decRequestA0 ao cap l most w h hm
  | true => exact decRequestA1 ao cap l most w h hm
theorem decChunkA0 (ao : Option Addr) (cap : Nat) (l : List Nat) (most : Nat) (w : World) (h : CRow w ao cap l) (hm : most < 4294967296) :
    Calls Try.prog 112 #[.slice ao l.length cap, .int .u32 (most : Int), .bool false] w fun e w' => ∃ (f t c o : Nat) (d : List Nat) (n er : Nat) (ao2 : Option Addr) (cap2 : Nat), e = .returned (.tuple #[.agg #[.int .u16 (f : Int), .int .u16 (t : Int), .int .u64 (c : Int), .int .u64 (o : Int), .slice ao2 d.length cap2], .int .i64 (n : Int), .int .i64 (er : Int)]) ∧ chkD most false l = ((f, t, c, o, d), n, er) ∧ Row w w' ao2 cap2 d := by
  unfold chkD
  rw [show cz false = 20 from rfl, show cm false = mChunk from rfl, show cof false l = 0 from rfl, show cln false l = vl l 16 4 from rfl]
  by_cases h1 : l.length < 20
  · rw [if_pos h1]
    refine (decChunk0_short ao cap l.length most w h1).mono ?_
    rintro e w' ⟨rfl, hb⟩
    exact ⟨0, 0, 0, 0, [], 20, 10, none, 0, rfl, rfl, row_nil w w' hb⟩
  rw [if_neg h1]
  obtain ⟨b, off, rfl⟩ := h.some (by omega)
  by_cases h2 : vl l 0 4 ≠ mChunk
  · rw [if_pos h2]
    refine (decChunk0_magic b off cap l.length l most w h rfl (by omega) h2).mono ?_
    rintro e w' ⟨rfl, hb⟩
    exact ⟨0, 0, 0, 0, [], 0, 80, none, 0, rfl, rfl, row_nil w w' hb⟩
  rw [if_neg h2]
  have h2' : vl l 0 4 = mChunk := Classical.byContradiction h2
  have b0 : vl l 16 4 < 4294967296 := by simpa using vl_lt h 16 4
  by_cases h3 : most < vl l 16 4
  · rw [if_pos h3]
    refine (decChunk0_long b off cap l.length l most (vl l 4 2) (vl l 6 2) (vl l 8 8) (vl l 16 4) w h rfl (by omega) h2' rfl rfl rfl rfl (Nat.lt_of_lt_of_le b0 (by decide)) hm h3).mono ?_
    rintro e w' ⟨ao2, cap2, rfl, hr⟩
    exact ⟨_, _, _, 0, [], 20, 12, ao2, cap2, rfl, rfl, hr⟩
  rw [if_neg h3]
  by_cases h4 : l.length < 20 + vl l 16 4
  · rw [if_pos h4]
    refine (decChunk0_short2 b off cap l.length l most (vl l 4 2) (vl l 6 2) (vl l 8 8) (vl l 16 4) w h rfl (by omega) h2' rfl rfl rfl rfl (Nat.lt_of_lt_of_le b0 (by decide)) hm (by omega) (by omega) _ rfl).mono ?_
    rintro e w' ⟨rfl, hb⟩
    exact ⟨0, 0, 0, 0, [], _, 10, none, 0, rfl, rfl, row_nil w w' hb⟩
  rw [if_neg h4]
  refine (decChunk0_ok b off cap l.length l most (vl l 4 2) (vl l 6 2) (vl l 8 8) (vl l 16 4) w h rfl (by omega) h2' rfl rfl rfl rfl (Nat.lt_of_lt_of_le b0 (by decide)) hm (by omega) (by omega) _ rfl _ rfl).mono ?_
  rintro e w' ⟨ao2, cap2, rfl, ho, hb⟩
  have hlen : ((l.drop 20).take (vl l 16 4)).length = vl l 16 4 := by rw [List.length_take, List.length_drop]; omega
  refine ⟨_, _, _, 0, (l.drop 20).take (vl l 16 4), _, 0, ao2, cap2, by rw [hlen]; rfl, rfl, ?_, fun x hx => h.row.lt x (List.mem_of_mem_drop (List.mem_of_mem_take hx)), hb⟩
  rw [hlen]; exact ho
theorem decChunkA1 (ao : Option Addr) (cap : Nat) (l : List Nat) (most : Nat) (w : World) (h : CRow w ao cap l) (hm : most < 4294967296) :
    Calls Try.prog 112 #[.slice ao l.length cap, .int .u32 (most : Int), .bool true] w fun e w' => ∃ (f t c o : Nat) (d : List Nat) (n er : Nat) (ao2 : Option Addr) (cap2 : Nat), e = .returned (.tuple #[.agg #[.int .u16 (f : Int), .int .u16 (t : Int), .int .u64 (c : Int), .int .u64 (o : Int), .slice ao2 d.length cap2], .int .i64 (n : Int), .int .i64 (er : Int)]) ∧ chkD most true l = ((f, t, c, o, d), n, er) ∧ Row w w' ao2 cap2 d := by
  unfold chkD
  rw [show cz true = 32 from rfl, show cm true = mChunk64 from rfl, show cof true l = vl l 16 8 from rfl, show cln true l = vl l 24 8 from rfl]
  by_cases h1 : l.length < 32
  · rw [if_pos h1]
    refine (decChunk1_short ao cap l.length most w h1).mono ?_
    rintro e w' ⟨rfl, hb⟩
    exact ⟨0, 0, 0, 0, [], 32, 10, none, 0, rfl, rfl, row_nil w w' hb⟩
  rw [if_neg h1]
  obtain ⟨b, off, rfl⟩ := h.some (by omega)
  by_cases h2 : vl l 0 4 ≠ mChunk64
  · rw [if_pos h2]
    refine (decChunk1_magic b off cap l.length l most w h rfl (by omega) h2).mono ?_
    rintro e w' ⟨rfl, hb⟩
    exact ⟨0, 0, 0, 0, [], 0, 80, none, 0, rfl, rfl, row_nil w w' hb⟩
  rw [if_neg h2]
  have h2' : vl l 0 4 = mChunk64 := Classical.byContradiction h2
  have b0 : vl l 24 8 < 18446744073709551616 := by simpa using vl_lt h 24 8
  by_cases h3 : most < vl l 24 8
  · rw [if_pos h3]
    refine (decChunk1_long b off cap l.length l most (vl l 4 2) (vl l 6 2) (vl l 8 8) (vl l 16 8) (vl l 24 8) w h rfl (by omega) h2' rfl rfl rfl rfl rfl (Nat.lt_of_lt_of_le b0 (by decide)) hm h3).mono ?_
    rintro e w' ⟨ao2, cap2, rfl, hr⟩
    exact ⟨_, _, _, _, [], 32, 12, ao2, cap2, rfl, rfl, hr⟩
  rw [if_neg h3]
  by_cases h4 : l.length < 32 + vl l 24 8
  · rw [if_pos h4]
    refine (decChunk1_short2 b off cap l.length l most (vl l 4 2) (vl l 6 2) (vl l 8 8) (vl l 16 8) (vl l 24 8) w h rfl (by omega) h2' rfl rfl rfl rfl rfl (Nat.lt_of_lt_of_le b0 (by decide)) hm (by omega) (by omega) _ rfl).mono ?_
    rintro e w' ⟨rfl, hb⟩
    exact ⟨0, 0, 0, 0, [], _, 10, none, 0, rfl, rfl, row_nil w w' hb⟩
  rw [if_neg h4]
  refine (decChunk1_ok b off cap l.length l most (vl l 4 2) (vl l 6 2) (vl l 8 8) (vl l 16 8) (vl l 24 8) w h rfl (by omega) h2' rfl rfl rfl rfl rfl (Nat.lt_of_lt_of_le b0 (by decide)) hm (by omega) (by omega) _ rfl _ rfl).mono ?_
  rintro e w' ⟨ao2, cap2, rfl, ho, hb⟩
  have hlen : ((l.drop 32).take (vl l 24 8)).length = vl l 24 8 := by rw [List.length_take, List.length_drop]; omega
  refine ⟨_, _, _, _, (l.drop 32).take (vl l 24 8), _, 0, ao2, cap2, by rw [hlen]; rfl, rfl, ?_, fun x hx => h.row.lt x (List.mem_of_mem_drop (List.mem_of_mem_take hx)), hb⟩
  rw [hlen]; exact ho
theorem decChunkA (ao : Option Addr) (cap : Nat) (l : List Nat) (most : Nat) (ext : Bool) (w : World) (h : CRow w ao cap l) (hm : most < 4294967296) :
    Calls Try.prog 112 #[.slice ao l.length cap, .int .u32 (most : Int), .bool ext] w fun e w' => ∃ (f t c o : Nat) (d : List Nat) (n er : Nat) (ao2 : Option Addr) (cap2 : Nat), e = .returned (.tuple #[.agg #[.int .u16 (f : Int), .int .u16 (t : Int), .int .u64 (c : Int), .int .u64 (o : Int), .slice ao2 d.length cap2], .int .i64 (n : Int), .int .i64 (er : Int)]) ∧ chkD most ext l = ((f, t, c, o, d), n, er) ∧ Row w w' ao2 cap2 d := by
  cases ext with
  | false => exact decChunkA0 ao cap l most w h hm
  | true => exact decChunkA1 ao cap l most w h hm
end Go.Proofs.Ytckfmpoddmccfaa
