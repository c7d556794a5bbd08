import Derived.Test.YtckfmpoddmccfaaRows
import Derived.Test.YtckfmpoddmccfaaJI
import Derived.WalkKit
import Derived.ProofKit
import Derived.OpenShut
import Derived.ChangeOld
import Derived.SizedLaws
import Derived.JoinedCond
import Derived.Deep.Slices
import Derived.Test.YtckfmpoddmccfaaNV
import Derived.Test.YtckfmpoddmccfaaJLi
import Derived.Test.YtckfmpoddmccfaaJLd
import Derived.Test.YtckfmpoddmccfaaJLh
import Derived.Test.YtckfmpoddmccfaaJLc
import Derived.Test.YtckfmpoddmccfaaJV0s
import Derived.Test.YtckfmpoddmccfaaJV1s
import Derived.Test.YtckfmpoddmccfaaJV0p
import Derived.Test.YtckfmpoddmccfaaJV1p
import Derived.Test.YtckfmpoddmccfaaJV0l
import Derived.Test.YtckfmpoddmccfaaJV1l
import Derived.Test.YtckfmpoddmccfaaJV0o
import Derived.Test.YtckfmpoddmccfaaJV1o
import Derived.Test.YtckfmpoddmccfaaNZs
import Derived.Test.YtckfmpoddmccfaaNZe
import Derived.Test.YtckfmpoddmccfaaJLe
import Derived.Test.YtckfmpoddmccfaaFD
import Derived.Test.YtckfmpoddmccfaaFC
import Derived.Test.YtckfmpoddmccfaaFCo
import Derived.Test.YtckfmpoddmccfaaFCp
import Derived.Test.YtckfmpoddmccfaaFNs
import Derived.Deep.RegionHeld3
import Derived.Laws.BitsAllLaws
import Derived.Test.YtckfmpoddmccfaaJR
import Derived.Test.YtckfmpoddmccfaaJLf
import Derived.Deep.MidRow
import Derived.Deep.DeepCutAuto
import Derived.Deep.CutRange
import Derived.Laws.AppendOwnNone
import Derived.Test.YtckfmpoddmccfaaFG
import Derived.Great.BuildSlice
import Derived.Test.YtckfmpoddmccfaaFA
import Derived.Test.YtckfmpoddmccfaaFCg
import Derived.Test.YtckfmpoddmccfaaFCr
import Derived.Test.YtckfmpoddmccfaaFCq
import Derived.Deep.RegionWith
namespace Go.Proofs.Ytckfmpoddmccfaa
open _root_.Go.Proofs.Ytckfmpoddmccfaa.Rows (uptoBulk uptoBulkAll uptoSmall)

theorem bulk_pos {H : Type} (d : DataW H) : 0 < uptoBulk d := by
  rcases d with l | _ | _ | _ | _ | _ | _ | _
  · cases l <;> simp [uptoBulk]
  all_goals simp [uptoBulk]
theorem bulkAll_append {H : Type} : ∀ l r : List (DataW H), uptoBulkAll (l ++ r) = uptoBulkAll l + uptoBulkAll r
  | [], r => by simp [uptoBulkAll]
  | d :: l, r => by simp only [List.cons_append, uptoBulkAll]; rw [bulkAll_append l r]; omega
theorem bulk_le_all {H : Type} {d : DataW H} {l : List (DataW H)} (h : d ∈ l) : uptoBulk d ≤ uptoBulkAll l := by
  obtain ⟨a, b, rfl⟩ := List.append_of_mem h
  rw [bulkAll_append]; simp only [uptoBulkAll]; omega
theorem length_le_bulk {H : Type} : ∀ l : List (DataW H), l.length ≤ uptoBulkAll l
  | [] => Nat.zero_le _
  | d :: l => by have := length_le_bulk l; have := bulk_pos d; simp only [uptoBulkAll, List.length_cons]; omega
theorem bulk_slice {H : Type} (es sp : List (DataW H)) : uptoBulk (.slice es sp) = uptoBulkAll es + uptoBulkAll sp + 1 := by simp [uptoBulk]
theorem bulk_bound {H : Type} {l : List (DataW H)} (h : uptoSmall H l = true) : uptoBulkAll l ≤ 1048576 := of_decide_eq_true h
end Go.Proofs.Ytckfmpoddmccfaa

namespace Go.Proofs.Ytckfmpoddmccfaa
open Go.ChangeShapes Go.WideShapes Go.ChangeAt Go.RowKit Go.Lib
open Go.Deep
set_option linter.unusedVariables false
set_option linter.unusedSimpArgs false
set_option maxRecDepth 100000

theorem own : ownKnob Try.prog.godebug = none := by kernel_rfl
theorem laidOut : laidOutB Try.prog = true := by kernel_rfl
theorem brow_ints (W : World) (x : Addr) (len cap : Nat) (zs : List Int) (hl : len ≤ zs.length) (hlen : len ≤ 140737488351232)
    (hcell : ∀ i, i < zs.length → W.cell? (x.add i) = some (.int .u8 (zs.getD i 0))) (hw : ∀ n ∈ zs, (Lit.int .u8 n).wf = true) :
    ∃ l : List Nat, l.length = len ∧ BRow W (some x) cap l := by
  have hb : ∀ i (hi : i < zs.length), 0 ≤ zs[i] ∧ zs[i] ≤ 255 := fun i hi => by
    have := bounds_u8 (hw _ (List.getElem_mem hi)); omega
  refine ⟨(zs.take len).map Int.toNat, by simp; omega, ⟨?_, by simp; omega, fun h => by simp at h, ?_⟩⟩
  · intro y hy
    obtain ⟨z, hz, rfl⟩ := List.mem_map.1 hy
    have hz' := List.mem_of_mem_take hz
    have := bounds_u8 (hw z hz'); omega
  · intro hne
    have hpos : 0 < len := by
      rcases Nat.eq_zero_or_pos len with h | h
      · subst h; simp at hne
      · exact h
    obtain ⟨b, off, rfl, hc⟩ := ints_at hcell (by omega)
    refine ⟨b, off, rfl, fun k hk => ?_⟩
    have hk' : k < len := by simp at hk; omega
    have h1 := hcell k (by omega)
    rw [add_plain] at h1
    rw [h1]
    have h2 := hb k (by omega)
    simp [bv, show k < zs.length by omega]
    omega
/-- a []byte that was read, in a slot or in a cell: its bytes -/
theorem open_bytesC {H : Type} {enc : TypeId × Value → H} {W : World} {base fuel : Nat} {cs : List Value} {d : DataW H} {p : List MemPlace} (hf : DataW.trod enc Try.prog W base (fun _ => true) true fuel 22 cs = some (d, p)) (hb : Rows.uptoBulk d ≤ 1048576) :
    ∃ (ao : Option Addr) (cap : Nat) (l : List Nat), cs = [.slice ao l.length cap] ∧ CRow W ao cap l ∧ l.length + 1 ≤ Rows.uptoBulk d := by
  rcases open_ints Try.underlying22 Try.underlying5 (by kernel_rfl) hf with ⟨hcs, hx⟩ | ⟨x, l, c, zs, hcs, _, hl, hm, hz, hx, hcell, hwz⟩
  · have hd : d = .nil := (Prod.mk.inj hx).1
    exact ⟨none, 0, [], hcs, ⟨⟨by simp, by simp, fun _ => ⟨rfl, rfl⟩, fun h => absurd rfl h⟩, by simp, by decide⟩, by rw [hd]; simp [Rows.uptoBulk]⟩
  · have hd : d = .slice (lits .u8 (zs.take l)) (lits .u8 (zs.drop l)) := (Prod.mk.inj hx).1
    have hz' : zs.length = c := by simpa using hz
    have hsl := bulk_slice (lits (H := H) .u8 (zs.take l)) (lits .u8 (zs.drop l))
    have hs1 := length_le_bulk (lits (H := H) .u8 (zs.take l))
    have hs2 := length_le_bulk (lits (H := H) .u8 (zs.drop l))
    rw [← hd] at hsl
    simp only [lits, List.length_map, List.length_take, List.length_drop] at hsl hs1 hs2
    obtain ⟨m, hm1, hm2⟩ := brow_ints W x l c zs (by omega) (by omega) hcell hwz
    subst hm1
    exact ⟨some x, c, m, hcs, ⟨hm2, by omega, by omega⟩, by omega⟩
end Go.Proofs.Ytckfmpoddmccfaa

namespace Go.Proofs.Ytckfmpoddmccfaa
open Go.RowKit
set_option linter.unusedVariables false
set_option linter.unusedSimpArgs false
set_option maxRecDepth 100000
theorem decRequestA0 (ao : Option Addr) (cap : Nat) (l : List Nat) (most : Nat) (w : World) (h : CRow w ao cap l) (hm : most < 4294967296) :
    Calls Try.prog 78 #[.slice ao l.length cap, .int .u32 (most : Int), .bool false] w fun e w' => ∃ (f t c o k : Nat) (d : List Nat) (n er : Nat) (ao2 : Option Addr) (cap2 : Nat), e = .returned (.tuple #[.agg #[.int .u16 (f : Int), .int .u16 (t : Int), .int .u64 (c : Int), .int .u64 (o : Int), .int .u64 (k : Int), .slice ao2 d.length cap2], .int .i64 (n : Int), .int .i64 (er : Int)]) ∧ reqD most false l = ((f, t, c, o, k, d), n, er) ∧ Row w w' ao2 cap2 d := by
  unfold reqD
  rw [show qz false = 28 from rfl, show qm false = mReq from rfl, show qk false = 4 from rfl]
  by_cases h1 : l.length < 28
  · rw [if_pos h1]
    refine (decRequest0_short ao cap l.length most w h1).mono ?_
    rintro e w' ⟨rfl, hb⟩
    exact ⟨0, 0, 0, 0, 0, [], 28, 10, none, 0, rfl, rfl, row_nil w w' hb⟩
  rw [if_neg h1]
  obtain ⟨b, off, rfl⟩ := h.some (by omega)
  by_cases h2 : vl l 0 4 ≠ mReq
  · rw [if_pos h2]
    refine (decRequest0_magic b off cap l.length l most w h rfl (by omega) h2).mono ?_
    rintro e w' ⟨rfl, hb⟩
    exact ⟨0, 0, 0, 0, 0, [], 0, 80, none, 0, rfl, rfl, row_nil w w' hb⟩
  rw [if_neg h2]
  have h2' : vl l 0 4 = mReq := Classical.byContradiction h2
  have b0 : vl l 24 4 < 4294967296 := by simpa using vl_lt h 24 4
  by_cases hp : payB (vl l 4 2) (vl l 6 2) false = false
  · rw [if_pos hp]
    refine (decRequest0_plain b off cap l.length l most (vl l 4 2) (vl l 6 2) (vl l 8 8) (vl l 16 8) (vl l 24 4) w h rfl (by omega) h2' rfl rfl rfl rfl rfl (Nat.lt_of_lt_of_le b0 (by decide)) hm hp).mono ?_
    rintro e w' ⟨ao2, cap2, rfl, hr⟩
    exact ⟨_, _, _, _, _, [], 28, 0, ao2, cap2, rfl, rfl, hr⟩
  rw [if_neg hp]
  have hp' : payB (vl l 4 2) (vl l 6 2) false = true := by simpa using hp
  by_cases h3 : most < vl l 24 4
  · rw [if_pos h3]
    refine (decRequest0_long b off cap l.length l most (vl l 4 2) (vl l 6 2) (vl l 8 8) (vl l 16 8) (vl l 24 4) w h rfl (by omega) h2' rfl rfl rfl rfl rfl (Nat.lt_of_lt_of_le b0 (by decide)) hm hp' h3).mono ?_
    rintro e w' ⟨ao2, cap2, rfl, hr⟩
    exact ⟨_, _, _, _, _, [], 28, 12, ao2, cap2, rfl, rfl, hr⟩
  rw [if_neg h3]
  by_cases h4 : l.length < 28 + vl l 24 4
  · rw [if_pos h4]
    refine (decRequest0_short2 b off cap l.length l most (vl l 4 2) (vl l 6 2) (vl l 8 8) (vl l 16 8) (vl l 24 4) w h rfl (by omega) h2' rfl rfl rfl rfl rfl (Nat.lt_of_lt_of_le b0 (by decide)) hm hp' (by omega) (by omega) _ rfl).mono ?_
    rintro e w' ⟨rfl, hb⟩
    exact ⟨0, 0, 0, 0, 0, [], _, 10, none, 0, rfl, rfl, row_nil w w' hb⟩
  rw [if_neg h4]
  refine (decRequest0_ok b off cap l.length l most (vl l 4 2) (vl l 6 2) (vl l 8 8) (vl l 16 8) (vl l 24 4) w h rfl (by omega) h2' rfl rfl rfl rfl rfl (Nat.lt_of_lt_of_le b0 (by decide)) hm hp' (by omega) (by omega) _ rfl _ rfl).mono ?_
  rintro e w' ⟨ao2, cap2, rfl, ho, hb⟩
  have hlen : ((l.drop 28).take (vl l 24 4)).length = vl l 24 4 := by rw [List.length_take, List.length_drop]; omega
  refine ⟨_, _, _, _, _, (l.drop 28).take (vl l 24 4), _, 0, ao2, cap2, by rw [hlen]; rfl, rfl, ?_, fun x hx => h.row.lt x (List.mem_of_mem_drop (List.mem_of_mem_take hx)), hb⟩
  rw [hlen]; exact ho
theorem decRequestA1 (ao : Option Addr) (cap : Nat) (l : List Nat) (most : Nat) (w : World) (h : CRow w ao cap l) (hm : most < 4294967296) :
    Calls Try.prog 78 #[.slice ao l.length cap, .int .u32 (most : Int), .bool true] w fun e w' => ∃ (f t c o k : Nat) (d : List Nat) (n er : Nat) (ao2 : Option Addr) (cap2 : Nat), e = .returned (.tuple #[.agg #[.int .u16 (f : Int), .int .u16 (t : Int), .int .u64 (c : Int), .int .u64 (o : Int), .int .u64 (k : Int), .slice ao2 d.length cap2], .int .i64 (n : Int), .int .i64 (er : Int)]) ∧ reqD most true l = ((f, t, c, o, k, d), n, er) ∧ Row w w' ao2 cap2 d := by
  unfold reqD
  rw [show qz true = 32 from rfl, show qm true = mReq64 from rfl, show qk true = 8 from rfl]
  by_cases h1 : l.length < 32
  · rw [if_pos h1]
    refine (decRequest1_short ao cap l.length most w h1).mono ?_
    rintro e w' ⟨rfl, hb⟩
    exact ⟨0, 0, 0, 0, 0, [], 32, 10, none, 0, rfl, rfl, row_nil w w' hb⟩
  rw [if_neg h1]
  obtain ⟨b, off, rfl⟩ := h.some (by omega)
  by_cases h2 : vl l 0 4 ≠ mReq64
  · rw [if_pos h2]
    refine (decRequest1_magic b off cap l.length l most w h rfl (by omega) h2).mono ?_
    rintro e w' ⟨rfl, hb⟩
    exact ⟨0, 0, 0, 0, 0, [], 0, 80, none, 0, rfl, rfl, row_nil w w' hb⟩
  rw [if_neg h2]
  have h2' : vl l 0 4 = mReq64 := Classical.byContradiction h2
  have b0 : vl l 24 8 < 18446744073709551616 := by simpa using vl_lt h 24 8
  by_cases hp : payB (vl l 4 2) (vl l 6 2) true = false
  · rw [if_pos hp]
    refine (decRequest1_plain b off cap l.length l most (vl l 4 2) (vl l 6 2) (vl l 8 8) (vl l 16 8) (vl l 24 8) w h rfl (by omega) h2' rfl rfl rfl rfl rfl (Nat.lt_of_lt_of_le b0 (by decide)) hm hp).mono ?_
    rintro e w' ⟨ao2, cap2, rfl, hr⟩
    exact ⟨_, _, _, _, _, [], 32, 0, ao2, cap2, rfl, rfl, hr⟩
  rw [if_neg hp]
  have hp' : payB (vl l 4 2) (vl l 6 2) true = true := by simpa using hp
  by_cases h3 : most < vl l 24 8
  · rw [if_pos h3]
    refine (decRequest1_long b off cap l.length l most (vl l 4 2) (vl l 6 2) (vl l 8 8) (vl l 16 8) (vl l 24 8) w h rfl (by omega) h2' rfl rfl rfl rfl rfl (Nat.lt_of_lt_of_le b0 (by decide)) hm hp' h3).mono ?_
    rintro e w' ⟨ao2, cap2, rfl, hr⟩
    exact ⟨_, _, _, _, _, [], 32, 12, ao2, cap2, rfl, rfl, hr⟩
  rw [if_neg h3]
  by_cases h4 : l.length < 32 + vl l 24 8
  · rw [if_pos h4]
    refine (decRequest1_short2 b off cap l.length l most (vl l 4 2) (vl l 6 2) (vl l 8 8) (vl l 16 8) (vl l 24 8) w h rfl (by omega) h2' rfl rfl rfl rfl rfl (Nat.lt_of_lt_of_le b0 (by decide)) hm hp' (by omega) (by omega) _ rfl).mono ?_
    rintro e w' ⟨rfl, hb⟩
    exact ⟨0, 0, 0, 0, 0, [], _, 10, none, 0, rfl, rfl, row_nil w w' hb⟩
  rw [if_neg h4]
  refine (decRequest1_ok b off cap l.length l most (vl l 4 2) (vl l 6 2) (vl l 8 8) (vl l 16 8) (vl l 24 8) w h rfl (by omega) h2' rfl rfl rfl rfl rfl (Nat.lt_of_lt_of_le b0 (by decide)) hm hp' (by omega) (by omega) _ rfl _ rfl).mono ?_
  rintro e w' ⟨ao2, cap2, rfl, ho, hb⟩
  have hlen : ((l.drop 32).take (vl l 24 8)).length = vl l 24 8 := by rw [List.length_take, List.length_drop]; omega
  refine ⟨_, _, _, _, _, (l.drop 32).take (vl l 24 8), _, 0, ao2, cap2, by rw [hlen]; rfl, rfl, ?_, fun x hx => h.row.lt x (List.mem_of_mem_drop (List.mem_of_mem_take hx)), hb⟩
  rw [hlen]; exact ho
theorem decRequestA (ao : Option Addr) (cap : Nat) (l : List Nat) (most : Nat) (ext : Bool) (w : World) (h : CRow w ao cap l) (hm : most < 4294967296) :
    Calls Try.prog 78 #[.slice ao l.length cap, .int .u32 (most : Int), .bool ext] w fun e w' => ∃ (f t c o k : Nat) (d : List Nat) (n er : Nat) (ao2 : Option Addr) (cap2 : Nat), e = .returned (.tuple #[.agg #[.int .u16 (f : Int), .int .u16 (t : Int), .int .u64 (c : Int), .int .u64 (o : Int), .int .u64 (k : Int), .slice ao2 d.length cap2], .int .i64 (n : Int), .int .i64 (er : Int)]) ∧ reqD most ext l = ((f, t, c, o, k, d), n, er) ∧ Row w w' ao2 cap2 d := by
  cases ext with
  | false => exact decRequestA0 ao cap l most w h hm
  | true => exact decRequestA1 ao cap l most w h hm
theorem decChunkA0 (ao : Option Addr) (cap : Nat) (l : List Nat) (most : Nat) (w : World) (h : CRow w ao cap l) (hm : most < 4294967296) :
    Calls Try.prog 112 #[.slice ao l.length cap, .int .u32 (most : Int), .bool false] w fun e w' => ∃ (f t c o : Nat) (d : List Nat) (n er : Nat) (ao2 : Option Addr) (cap2 : Nat), e = .returned (.tuple #[.agg #[.int .u16 (f : Int), .int .u16 (t : Int), .int .u64 (c : Int), .int .u64 (o : Int), .slice ao2 d.length cap2], .int .i64 (n : Int), .int .i64 (er : Int)]) ∧ chkD most false l = ((f, t, c, o, d), n, er) ∧ Row w w' ao2 cap2 d := by
  unfold chkD
  rw [show cz false = 20 from rfl, show cm false = mChunk from rfl, show cof false l = 0 from rfl, show cln false l = vl l 16 4 from rfl]
  by_cases h1 : l.length < 20
  · rw [if_pos h1]
    refine (decChunk0_short ao cap l.length most w h1).mono ?_
    rintro e w' ⟨rfl, hb⟩
    exact ⟨0, 0, 0, 0, [], 20, 10, none, 0, rfl, rfl, row_nil w w' hb⟩
  rw [if_neg h1]
  obtain ⟨b, off, rfl⟩ := h.some (by omega)
  by_cases h2 : vl l 0 4 ≠ mChunk
  · rw [if_pos h2]
    refine (decChunk0_magic b off cap l.length l most w h rfl (by omega) h2).mono ?_
    rintro e w' ⟨rfl, hb⟩
    exact ⟨0, 0, 0, 0, [], 0, 80, none, 0, rfl, rfl, row_nil w w' hb⟩
  rw [if_neg h2]
  have h2' : vl l 0 4 = mChunk := Classical.byContradiction h2
  have b0 : vl l 16 4 < 4294967296 := by simpa using vl_lt h 16 4
  by_cases h3 : most < vl l 16 4
  · rw [if_pos h3]
    refine (decChunk0_long b off cap l.length l most (vl l 4 2) (vl l 6 2) (vl l 8 8) (vl l 16 4) w h rfl (by omega) h2' rfl rfl rfl rfl (Nat.lt_of_lt_of_le b0 (by decide)) hm h3).mono ?_
    rintro e w' ⟨ao2, cap2, rfl, hr⟩
    exact ⟨_, _, _, 0, [], 20, 12, ao2, cap2, rfl, rfl, hr⟩
  rw [if_neg h3]
  by_cases h4 : l.length < 20 + vl l 16 4
  · rw [if_pos h4]
    refine (decChunk0_short2 b off cap l.length l most (vl l 4 2) (vl l 6 2) (vl l 8 8) (vl l 16 4) w h rfl (by omega) h2' rfl rfl rfl rfl (Nat.lt_of_lt_of_le b0 (by decide)) hm (by omega) (by omega) _ rfl).mono ?_
    rintro e w' ⟨rfl, hb⟩
    exact ⟨0, 0, 0, 0, [], _, 10, none, 0, rfl, rfl, row_nil w w' hb⟩
  rw [if_neg h4]
  refine (decChunk0_ok b off cap l.length l most (vl l 4 2) (vl l 6 2) (vl l 8 8) (vl l 16 4) w h rfl (by omega) h2' rfl rfl rfl rfl (Nat.lt_of_lt_of_le b0 (by decide)) hm (by omega) (by omega) _ rfl _ rfl).mono ?_
  rintro e w' ⟨ao2, cap2, rfl, ho, hb⟩
  have hlen : ((l.drop 20).take (vl l 16 4)).length = vl l 16 4 := by rw [List.length_take, List.length_drop]; omega
  refine ⟨_, _, _, 0, (l.drop 20).take (vl l 16 4), _, 0, ao2, cap2, by rw [hlen]; rfl, rfl, ?_, fun x hx => h.row.lt x (List.mem_of_mem_drop (List.mem_of_mem_take hx)), hb⟩
  rw [hlen]; exact ho
theorem decChunkA1 (ao : Option Addr) (cap : Nat) (l : List Nat) (most : Nat) (w : World) (h : CRow w ao cap l) (hm : most < 4294967296) :
    Calls Try.prog 112 #[.slice ao l.length cap, .int .u32 (most : Int), .bool true] w fun e w' => ∃ (f t c o : Nat) (d : List Nat) (n er : Nat) (ao2 : Option Addr) (cap2 : Nat), e = .returned (.tuple #[.agg #[.int .u16 (f : Int), .int .u16 (t : Int), .int .u64 (c : Int), .int .u64 (o : Int), .slice ao2 d.length cap2], .int .i64 (n : Int), .int .i64 (er : Int)]) ∧ chkD most true l = ((f, t, c, o, d), n, er) ∧ Row w w' ao2 cap2 d := by
  unfold chkD
  rw [show cz true = 32 from rfl, show cm true = mChunk64 from rfl, show cof true l = vl l 16 8 from rfl, show cln true l = vl l 24 8 from rfl]
  by_cases h1 : l.length < 32
  · rw [if_pos h1]
    refine (decChunk1_short ao cap l.length most w h1).mono ?_
    rintro e w' ⟨rfl, hb⟩
    exact ⟨0, 0, 0, 0, [], 32, 10, none, 0, rfl, rfl, row_nil w w' hb⟩
  rw [if_neg h1]
  obtain ⟨b, off, rfl⟩ := h.some (by omega)
  by_cases h2 : vl l 0 4 ≠ mChunk64
  · rw [if_pos h2]
    refine (decChunk1_magic b off cap l.length l most w h rfl (by omega) h2).mono ?_
    rintro e w' ⟨rfl, hb⟩
    exact ⟨0, 0, 0, 0, [], 0, 80, none, 0, rfl, rfl, row_nil w w' hb⟩
  rw [if_neg h2]
  have h2' : vl l 0 4 = mChunk64 := Classical.byContradiction h2
  have b0 : vl l 24 8 < 18446744073709551616 := by simpa using vl_lt h 24 8
  by_cases h3 : most < vl l 24 8
  · rw [if_pos h3]
    refine (decChunk1_long b off cap l.length l most (vl l 4 2) (vl l 6 2) (vl l 8 8) (vl l 16 8) (vl l 24 8) w h rfl (by omega) h2' rfl rfl rfl rfl rfl (Nat.lt_of_lt_of_le b0 (by decide)) hm h3).mono ?_
    rintro e w' ⟨ao2, cap2, rfl, hr⟩
    exact ⟨_, _, _, _, [], 32, 12, ao2, cap2, rfl, rfl, hr⟩
  rw [if_neg h3]
  by_cases h4 : l.length < 32 + vl l 24 8
  · rw [if_pos h4]
    refine (decChunk1_short2 b off cap l.length l most (vl l 4 2) (vl l 6 2) (vl l 8 8) (vl l 16 8) (vl l 24 8) w h rfl (by omega) h2' rfl rfl rfl rfl rfl (Nat.lt_of_lt_of_le b0 (by decide)) hm (by omega) (by omega) _ rfl).mono ?_
    rintro e w' ⟨rfl, hb⟩
    exact ⟨0, 0, 0, 0, [], _, 10, none, 0, rfl, rfl, row_nil w w' hb⟩
  rw [if_neg h4]
  refine (decChunk1_ok b off cap l.length l most (vl l 4 2) (vl l 6 2) (vl l 8 8) (vl l 16 8) (vl l 24 8) w h rfl (by omega) h2' rfl rfl rfl rfl rfl (Nat.lt_of_lt_of_le b0 (by decide)) hm (by omega) (by omega) _ rfl _ rfl).mono ?_
  rintro e w' ⟨ao2, cap2, rfl, ho, hb⟩
  have hlen : ((l.drop 32).take (vl l 24 8)).length = vl l 24 8 := by rw [List.length_take, List.length_drop]; omega
  refine ⟨_, _, _, _, (l.drop 32).take (vl l 24 8), _, 0, ao2, cap2, by rw [hlen]; rfl, rfl, ?_, fun x hx => h.row.lt x (List.mem_of_mem_drop (List.mem_of_mem_take hx)), hb⟩
  rw [hlen]; exact ho
theorem decChunkA (ao : Option Addr) (cap : Nat) (l : List Nat) (most : Nat) (ext : Bool) (w : World) (h : CRow w ao cap l) (hm : most < 4294967296) :
    Calls Try.prog 112 #[.slice ao l.length cap, .int .u32 (most : Int), .bool ext] w fun e w' => ∃ (f t c o : Nat) (d : List Nat) (n er : Nat) (ao2 : Option Addr) (cap2 : Nat), e = .returned (.tuple #[.agg #[.int .u16 (f : Int), .int .u16 (t : Int), .int .u64 (c : Int), .int .u64 (o : Int), .slice ao2 d.length cap2], .int .i64 (n : Int), .int .i64 (er : Int)]) ∧ chkD most ext l = ((f, t, c, o, d), n, er) ∧ Row w w' ao2 cap2 d := by
  cases ext with
  | false => exact decChunkA0 ao cap l most w h hm
  | true => exact decChunkA1 ao cap l most w h hm
end Go.Proofs.Ytckfmpoddmccfaa

namespace Go.Proofs.Ytckfmpoddmccfaa
open Go.RowKit
set_option linter.unusedVariables false
set_option linter.unusedSimpArgs false
set_option maxRecDepth 100000
theorem decExportA0 (ao : Option Addr) (cap : Nat) (l : List Nat) (w : World) (h : CRow w ao cap l) :
    Calls Try.prog 75 #[.slice ao l.length cap, .bool false] w fun e w' => ∃ (s f n er : Nat), e = .returned (.tuple #[.agg #[.int .u64 (s : Int), .int .u16 (f : Int)], .int .i64 (n : Int), .int .i64 (er : Int)]) ∧ expD false l = ((s, f), n, er) ∧ Below w.heap.size w w' := by
  have hz : xz false = 10 := rfl
  unfold expD
  rw [hz]
  by_cases h1 : l.length < 10
  · rw [if_pos h1]
    refine (decExport0_short ao cap l.length w h1).mono ?_
    rintro e w' ⟨rfl, hb⟩
    exact ⟨0, 0, 10, 10, rfl, rfl, hb⟩
  rw [if_neg h1]
  obtain ⟨b, off, rfl⟩ := h.some (by omega)
  by_cases h2 : xzs false l = false
  · rw [if_pos h2]
    have h3 : ∃ x ∈ (l.take 10).drop 10, x ≠ 0 := by
      unfold xzs at h2
      rw [hz, List.all_eq_false] at h2
      obtain ⟨x, hx, hx0⟩ := h2
      exact ⟨x, hx, by simpa using hx0⟩
    refine (decExport0_form b off cap l.length l w h rfl (by omega) h3).mono ?_
    rintro e w' ⟨rfl, hb⟩
    exact ⟨0, 0, 0, 81, rfl, rfl, hb⟩
  rw [if_neg h2]
  have h3 : ∀ x ∈ (l.take 10).drop 10, x = 0 := fun x hx => by
    have h2' : xzs false l = true := by simpa using h2
    unfold xzs at h2'
    rw [hz, List.all_eq_true] at h2'
    simpa using h2' x hx
  refine (decExport0_ok b off cap l.length l (vl l 0 8) (vl l 8 2) w h rfl (by omega) rfl rfl h3).mono ?_
  rintro e w' ⟨rfl, hb⟩
  exact ⟨_, _, 10, 0, rfl, rfl, hb⟩
theorem decExportA1 (ao : Option Addr) (cap : Nat) (l : List Nat) (w : World) (h : CRow w ao cap l) :
    Calls Try.prog 75 #[.slice ao l.length cap, .bool true] w fun e w' => ∃ (s f n er : Nat), e = .returned (.tuple #[.agg #[.int .u64 (s : Int), .int .u16 (f : Int)], .int .i64 (n : Int), .int .i64 (er : Int)]) ∧ expD true l = ((s, f), n, er) ∧ Below w.heap.size w w' := by
  have hz : xz true = 134 := rfl
  unfold expD
  rw [hz]
  by_cases h1 : l.length < 134
  · rw [if_pos h1]
    refine (decExport1_short ao cap l.length w h1).mono ?_
    rintro e w' ⟨rfl, hb⟩
    exact ⟨0, 0, 134, 10, rfl, rfl, hb⟩
  rw [if_neg h1]
  obtain ⟨b, off, rfl⟩ := h.some (by omega)
  by_cases h2 : xzs true l = false
  · rw [if_pos h2]
    have h3 : ∃ x ∈ (l.take 134).drop 10, x ≠ 0 := by
      unfold xzs at h2
      rw [hz, List.all_eq_false] at h2
      obtain ⟨x, hx, hx0⟩ := h2
      exact ⟨x, hx, by simpa using hx0⟩
    refine (decExport1_form b off cap l.length l w h rfl (by omega) h3).mono ?_
    rintro e w' ⟨rfl, hb⟩
    exact ⟨0, 0, 0, 81, rfl, rfl, hb⟩
  rw [if_neg h2]
  have h3 : ∀ x ∈ (l.take 134).drop 10, x = 0 := fun x hx => by
    have h2' : xzs true l = true := by simpa using h2
    unfold xzs at h2'
    rw [hz, List.all_eq_true] at h2'
    simpa using h2' x hx
  refine (decExport1_ok b off cap l.length l (vl l 0 8) (vl l 8 2) w h rfl (by omega) rfl rfl h3).mono ?_
  rintro e w' ⟨rfl, hb⟩
  exact ⟨_, _, 134, 0, rfl, rfl, hb⟩
theorem decExportA (ao : Option Addr) (cap : Nat) (l : List Nat) (z : Bool) (w : World) (h : CRow w ao cap l) :
    Calls Try.prog 75 #[.slice ao l.length cap, .bool z] w fun e w' => ∃ (s f n er : Nat), e = .returned (.tuple #[.agg #[.int .u64 (s : Int), .int .u16 (f : Int)], .int .i64 (n : Int), .int .i64 (er : Int)]) ∧ expD z l = ((s, f), n, er) ∧ Below w.heap.size w w' := by
  cases z with
  | false => exact decExportA0 ao cap l w h
  | true => exact decExportA1 ao cap l w h
end Go.Proofs.Ytckfmpoddmccfaa

namespace Go.Proofs.Ytckfmpoddmccfaa
open Go.RowKit
set_option linter.unusedVariables false
set_option linter.unusedSimpArgs false
set_option maxRecDepth 100000

theorem greD_n (l : List Nat) (h : (greD l).2.2 = 0) : (greD l).2.1 ≤ l.length := by
  unfold greD at h ⊢
  by_cases h0 : l.length < 18
  · rw [if_pos h0] at h; simp at h
  rw [if_neg h0] at h ⊢
  by_cases h1 : vl l 0 8 ≠ mInit
  · rw [if_pos h1] at h; simp at h
  rw [if_neg h1] at h ⊢
  by_cases h2 : vl l 8 8 ≠ mHave
  · rw [if_pos h2] at h; simp at h
  rw [if_neg h2] at h ⊢
  simp only
  omega
theorem expD_n (z : Bool) (l : List Nat) (h : (expD z l).2.2 = 0) : (expD z l).2.1 ≤ l.length := by
  unfold expD at h ⊢
  by_cases h0 : l.length < xz z
  · rw [if_pos h0] at h; simp at h
  rw [if_neg h0] at h ⊢
  by_cases h1 : xzs z l = false
  · rw [if_pos h1] at h; simp at h
  rw [if_neg h1] at h ⊢
  simp only
  omega
theorem simD_n (l : List Nat) (h : (simD l).2.2 = 0) : (simD l).2.1 ≤ l.length := by
  unfold simD at h ⊢
  by_cases h0 : l.length < 16
  · rw [if_pos h0] at h; simp at h
  rw [if_neg h0] at h ⊢
  by_cases h1 : vl l 0 4 ≠ mSimple
  · rw [if_pos h1] at h; simp at h
  rw [if_neg h1] at h ⊢
  simp only
  omega
theorem repD_n (most : Nat) (l : List Nat) (h : (repD most l).2.2 = 0) : (repD most l).2.1 ≤ l.length := by
  unfold repD at h ⊢
  by_cases h0 : l.length < 20
  · rw [if_pos h0] at h; simp at h
  rw [if_neg h0] at h ⊢
  by_cases h1 : vl l 0 8 ≠ mReply
  · rw [if_pos h1] at h; simp at h
  rw [if_neg h1] at h ⊢
  by_cases h2 : most < vl l 16 4
  · rw [if_pos h2] at h; simp at h
  rw [if_neg h2] at h ⊢
  by_cases h3 : l.length < 20 + vl l 16 4
  · rw [if_pos h3] at h; simp at h
  rw [if_neg h3] at h ⊢
  simp only
  omega
theorem reqD_n (most : Nat) (ext : Bool) (l : List Nat) (h : (reqD most ext l).2.2 = 0) : (reqD most ext l).2.1 ≤ l.length := by
  unfold reqD at h ⊢
  by_cases h0 : l.length < qz ext
  · rw [if_pos h0] at h; simp at h
  rw [if_neg h0] at h ⊢
  by_cases h1 : vl l 0 4 ≠ qm ext
  · rw [if_pos h1] at h; simp at h
  rw [if_neg h1] at h ⊢
  by_cases h2 : payB (vl l 4 2) (vl l 6 2) ext = false
  · rw [if_pos h2]; simp only; omega
  rw [if_neg h2] at h ⊢
  by_cases h3 : most < vl l 24 (qk ext)
  · rw [if_pos h3] at h; simp at h
  rw [if_neg h3] at h ⊢
  by_cases h4 : l.length < qz ext + vl l 24 (qk ext)
  · rw [if_pos h4] at h; simp at h
  rw [if_neg h4] at h ⊢
  simp only
  omega
theorem chkD_n (most : Nat) (ext : Bool) (l : List Nat) (h : (chkD most ext l).2.2 = 0) : (chkD most ext l).2.1 ≤ l.length := by
  unfold chkD at h ⊢
  by_cases h0 : l.length < cz ext
  · rw [if_pos h0] at h; simp at h
  rw [if_neg h0] at h ⊢
  by_cases h1 : vl l 0 4 ≠ cm ext
  · rw [if_pos h1] at h; simp at h
  rw [if_neg h1] at h ⊢
  by_cases h2 : most < cln ext l
  · rw [if_pos h2] at h; simp at h
  rw [if_neg h2] at h ⊢
  by_cases h3 : l.length < cz ext + cln ext l
  · rw [if_pos h3] at h; simp at h
  rw [if_neg h3] at h ⊢
  simp only
  omega
end Go.Proofs.Ytckfmpoddmccfaa

namespace Go.Proofs.Ytckfmpoddmccfaa
open Go.RowKit
set_option linter.unusedVariables false
set_option linter.unusedSimpArgs false
set_option maxRecDepth 100000

/-- an option's decoder in frame: the head alone of one that is too long is taken -/
def optF (most : Nat) (l : List Nat) : (Nat × Nat × Bool × List Nat) × Nat × Nat := ((optD most l).1, (optD most l).2.1, if (optD most l).2.2 = 12 then 0 else (optD most l).2.2)
theorem optF_n (most : Nat) (l : List Nat) (h : (optF most l).2.2 = 0) : (optF most l).2.1 ≤ l.length := by
  have h0 := optD_n most l
  unfold optF at h ⊢
  simp only at h ⊢
  by_cases h12 : (optD most l).2.2 = 12
  · unfold optD at h12 ⊢
    by_cases h1 : l.length < 16
    · rw [if_pos h1] at h12; simp at h12
    rw [if_neg h1] at h12 ⊢
    by_cases h2 : vl l 0 8 ≠ mHave
    · rw [if_pos h2] at h12; simp at h12
    rw [if_neg h2] at h12 ⊢
    by_cases h3 : most < vl l 12 4
    · rw [if_pos h3]; simp only; omega
    rw [if_neg h3] at h12 ⊢
    by_cases h4 : l.length < 16 + vl l 12 4
    · rw [if_pos h4] at h12; simp at h12
    rw [if_neg h4] at h12; simp at h12
  · rw [if_neg h12] at h
    exact h0 h
/-- what a decoder of options answers -/
def OptP (D : (Nat × Nat × Bool × List Nat) × Nat × Nat) (w : World) (e : Ending) (w' : World) : Prop :=
  ∃ (c k : Nat) (lg : Bool) (d : List Nat) (n er : Nat) (ao2 : Option Addr) (cap2 : Nat), e = .returned (.tuple #[.agg #[.int .u32 (c : Int), .int .u32 (k : Int), .bool lg, .slice ao2 d.length cap2], .int .i64 (n : Int), .int .i64 (er : Int)]) ∧ D = ((c, k, lg, d), n, er) ∧ Row w w' ao2 cap2 d
/-- boxes and a row, new ones, and else all is as it was -/
structure Bx (w W : World) (bs : List (Nat × Array Value × TypeId)) (dv : Value) (d : List Nat) : Prop where
  bel : Below w.heap.size w W
  box : ∀ x ∈ bs, W.heap[x.1]? = some (.cells x.2.1 x.2.2 (0, 0)) ∧ w.heap.size ≤ x.1 ∧ x.2.2 ≠ 5
  nd : (bs.map (·.1)).Nodup
  row : W.ownsRow w.heap.size 5 1 dv d.length (d.map bv)
section
variable {w W W' : World} {bs : List (Nat × Array Value × TypeId)} {dv : Value} {d : List Nat}
theorem Bx.start (w : World) : Bx w w [] (.slice none 0 0) [] := ⟨Below.refl _ _, by simp, by simp, World.ownsRow_nil _ _ _ _⟩
theorem Bx.later (h : Bx w W bs dv d) (hb : Below W.heap.size W W') : Bx w W' bs dv d :=
  ⟨h.bel.trans (hb.mono h.bel.size), fun x hx => ⟨(hb.block _ (block_lt (h.box x hx).1)).trans (h.box x hx).1, (h.box x hx).2⟩, h.nd, owns_same h.row fun g hg => hb.block g (owns_lt h.row g hg).1⟩
theorem Bx.alloc (h : Bx w W bs dv d) (cs : Array Value) (t : TypeId) (ht : t ≠ 5) : Bx w (W.alloc (.cells cs t)) ((W.heap.size, cs, t) :: bs) dv d := by
  have h2 := h.later (W' := W.alloc (.cells cs t)) ((Below.refl _ _).alloc (Nat.le_refl _) _)
  refine ⟨h2.bel, fun x hx => ?_, ?_, h2.row⟩
  · rcases List.mem_cons.1 hx with rfl | hx
    · exact ⟨heap_new W _, h.bel.size, ht⟩
    · exact h2.box x hx
  · rw [List.map_cons, List.nodup_cons]
    refine ⟨fun hm => ?_, h.nd⟩
    obtain ⟨x, hx, e⟩ := List.mem_map.1 hm
    have e' : x.1 = W.heap.size := e
    have := block_lt (h.box x hx).1
    omega
theorem Bx.told (h : Bx w W bs dv d) {ao : Option Addr} {cap : Nat} {d' : List Nat} (hr : Row W W' ao cap d') : Bx w W' bs (.slice ao d'.length cap) d' := by
  have h2 := h.later hr.bel
  exact ⟨h2.bel, h2.box, h2.nd, owns_mono hr.own h.bel.size⟩
theorem Bx.put {pre post : List (Nat × Array Value × TypeId)} {g : Nat} {cs : Array Value} {t : TypeId} (h : Bx w W (pre ++ (g, cs, t) :: post) dv d) (j : Nat) (u : Value) {cs' : Array Value} (hcs : cs.setIfInBounds j u = cs') : Bx w (W.setCell ⟨g, j, none⟩ u) (pre ++ (g, cs', t) :: post) dv d := by
  have hg : (g, cs, t) ∈ pre ++ (g, cs, t) :: post := by simp
  obtain ⟨h1, h2, h3⟩ := h.box _ hg
  have n2 : dv.ownBlock ≠ some g := fun e => by
    obtain ⟨cur, hc⟩ := owns_type h.row _ e
    have := h1.symm.trans hc
    simp at this
    exact h3 this.2
  have hnd := h.nd
  rw [List.map_append, List.map_cons, List.nodup_append, List.nodup_cons] at hnd
  obtain ⟨hn1, ⟨hn2, hn3⟩, hn4⟩ := hnd
  have hoth : ∀ x, x ∈ pre ∨ x ∈ post → x.1 ≠ g := by
    rintro x (hx | hx) e
    · exact hn4 x.1 (List.mem_map_of_mem hx) g (by simp) e
    · exact hn2 (List.mem_map.2 ⟨x, hx, e⟩)
  refine ⟨below_set h.bel h2, fun x hx => ?_, by simpa using h.nd, owns_same h.row fun k hk2 => Below.heap_setCell _ _ _ _ (fun e => n2 (by rw [hk2, e]))⟩
  have key : ∀ x, x ∈ pre ∨ x ∈ post → (W.setCell ⟨g, j, none⟩ u).heap[x.1]? = some (.cells x.2.1 x.2.2 (0, 0)) ∧ w.heap.size ≤ x.1 ∧ x.2.2 ≠ 5 := fun x hx' => by
    obtain ⟨k1, k2⟩ := h.box x (by rcases hx' with e | e <;> simp [e])
    exact ⟨(Below.heap_setCell _ _ _ _ (hoth x hx')).trans k1, k2⟩
  rcases List.mem_append.1 hx with hx' | hx'
  · exact key x (.inl hx')
  · rcases List.mem_cons.1 hx' with rfl | hx'
    · refine ⟨?_, h2, h3⟩
      have := heap_setCell_same W g j cs t u h1
      rw [this, hcs]
    · exact key x (.inr hx')
theorem Bx.c (h : Bx w W bs dv d) {g : Nat} {cs : Array Value} {t : TypeId} (hg : (g, cs, t) ∈ bs) (j : Nat) : W.cell? ⟨g, j, none⟩ = cs[j]? ∧ W.frozen? ⟨g, j, none⟩ = false :=
  ⟨blk_at (h.box _ hg).1 j, blk_free (h.box _ hg).1 j⟩
end
abbrev zOpt : Array Value := #[.int .u32 0, .int .u32 0, .bool false, nilV]
set_option maxHeartbeats 4000000 in
theorem decodeOptionF (ao : Option Addr) (cap : Nat) (l : List Nat) (most : Nat) (w : World) (h : CRow w ao cap l) (hm : most < 4294967296) :
    Calls Try.prog 62 #[.slice ao l.length cap, .int .u32 (most : Int)] w fun e w' => OptP (optF most l) w e w' := by
  have h5 : 57 ≠ 5 := by decide
  obtain ⟨W0, hW0⟩ : ∃ W0, W0 = w.alloc (.cells #[.int .u32 0, .int .u32 0, .bool false, Value.slice none 0 0] 57) := ⟨_, rfl⟩
  have hB0 := (Bx.start w).alloc #[.int .u32 0, .int .u32 0, .bool false, Value.slice none 0 0] 57 h5
  rw [← hW0] at hB0
  have H0 : Hid _ := hB0
  have HD : Hid _ := decOptionA ao cap l most W0 (h.later hB0.bel) hm
  obtain ⟨ln, hln⟩ : ∃ ln, l.length = ln := ⟨_, rfl⟩
  rw [hln] at HD
  rw [hln]
  clear hB0 h
  go_enter Try.func62, Try.ntmps62
  go_wp2_with fail
  rw [← hW0]
  clear hW0
  refine Calls.mono HD.out ?_
  rintro e W1 ⟨c, k, lg, d, n, er, ao2, cap2, rfl, hD, hr⟩
  have HDe : Hid (optD most l = ((c, k, lg, d), n, er)) := hD
  have HR : Hid (∀ x ∈ d, x < 256) := hr.lt
  have H2 : Hid _ := (H0.out.told hr).alloc #[.int .u32 (c : Int), .int .u32 (k : Int), .bool lg, .slice ao2 d.length cap2] 57 h5
  clear H0 HD hD hr
  obtain ⟨r0, f0⟩ := H2.out.c (.tail _ (.head _)) 0; obtain ⟨r1, f1⟩ := H2.out.c (.tail _ (.head _)) 1; obtain ⟨r2, f2⟩ := H2.out.c (.tail _ (.head _)) 2; obtain ⟨r3, f3⟩ := H2.out.c (.tail _ (.head _)) 3
  simp at r0 r1 r2 r3
  have H3 : Hid _ := Bx.put (pre := [_]) (Bx.put (pre := [_]) (Bx.put (pre := [_]) (Bx.put (pre := [_]) H2.out 0 (.int .u32 (c : Int)) (cs' := #[.int .u32 (c : Int), .int .u32 0, .bool false, Value.slice none 0 0]) rfl) 1 (.int .u32 (k : Int)) (cs' := #[.int .u32 (c : Int), .int .u32 (k : Int), .bool false, Value.slice none 0 0]) rfl) 2 (.bool lg) (cs' := #[.int .u32 (c : Int), .int .u32 (k : Int), .bool lg, Value.slice none 0 0]) rfl) 3 (.slice ao2 d.length cap2) (cs' := #[.int .u32 (c : Int), .int .u32 (k : Int), .bool lg, .slice ao2 d.length cap2]) rfl
  clear H2
  by_cases h12 : er = 12
  · subst h12
    go_wp2
    exact bodyPost_ret (results_cell_tmp2 rfl _ _ w.heap.size 57 #[.int .u32 (c : Int), .int .u32 (k : Int), .bool lg, .slice ao2 d.length cap2] (0, 0) _ rfl (H3.out.box _ (.tail _ (.head _))).1 Try.underlying57 rfl infoOpt) rfl ⟨c, k, lg, d, n, 0, ao2, cap2, rfl, by simp [optF, HDe.out], H3.out.row, HR.out, H3.out.bel⟩
  · have e12 : ¬ ((er : Int) = 12) := by omega
    go_wp2
    exact bodyPost_ret (results_cell_tmp2 rfl _ _ w.heap.size 57 #[.int .u32 (c : Int), .int .u32 (k : Int), .bool lg, .slice ao2 d.length cap2] (0, 0) _ rfl (H3.out.box _ (.tail _ (.head _))).1 Try.underlying57 rfl infoOpt) rfl ⟨c, k, lg, d, n, er, ao2, cap2, rfl, by simp [optF, HDe.out, h12], H3.out.row, HR.out, H3.out.bel⟩
end Go.Proofs.Ytckfmpoddmccfaa

namespace Go.Proofs.Ytckfmpoddmccfaa
open Go.RowKit
set_option linter.unusedVariables false
set_option linter.unusedSimpArgs false
set_option maxRecDepth 100000

set_option maxHeartbeats 4000000 in
theorem option1 (ao : Option Addr) (cap : Nat) (l : List Nat) (most pm : Nat) (w : World) (h : CRow w ao cap l) (hm : most < 4294967296) (hp : w.cell? ⟨pm, 0, none⟩ = some (.int .u32 (most : Int))) :
    Calls Try.prog 61 #[.slice ao l.length cap, .pointer (some ⟨pm, 0, none⟩)] w fun e w' => OptP (optF most l) w e w' := by
  have h5 : 57 ≠ 5 := by decide
  obtain ⟨W0, hW0⟩ : ∃ W0, W0 = w.alloc (.cells #[.int .u32 0, .int .u32 0, .bool false, Value.slice none 0 0] 57) := ⟨_, rfl⟩
  have hB0 := (Bx.start w).alloc #[.int .u32 0, .int .u32 0, .bool false, Value.slice none 0 0] 57 h5
  rw [← hW0] at hB0
  have H0 : Hid _ := hB0
  have hp0 : W0.cell? ⟨pm, 0, none⟩ = some (.int .u32 (most : Int)) := cell_later hB0.bel hp
  have hp1 := hp0
  rw [hW0] at hp1
  have HD : Hid (Calls Try.prog 62 #[.slice ao l.length cap, .int .u32 (most : Int)] W0 fun e w' => OptP (optF most l) W0 e w') := decodeOptionF ao cap l most W0 (h.later hB0.bel) hm
  obtain ⟨ln, hln⟩ : ∃ ln, l.length = ln := ⟨_, rfl⟩
  rw [hln] at HD
  rw [hln]
  clear hB0 h
  go_enter Try.func61, Try.ntmps61
  go_wp2_with fail
  rw [← hW0]
  clear hW0 hp1
  refine HD.out.mono ?_
  rintro e W1 ⟨c, k, lg, d, n, er, ao2, cap2, rfl, hD, hr⟩
  have HDe : Hid (optF most l = ((c, k, lg, d), n, er)) := hD
  have HR : Hid (∀ x ∈ d, x < 256) := hr.lt
  have H2 : Hid _ := H0.out.told hr
  clear H0 HD hD hr hp0 hp
  obtain ⟨r0, f0⟩ := H2.out.c (.head _) 0; obtain ⟨r1, f1⟩ := H2.out.c (.head _) 1; obtain ⟨r2, f2⟩ := H2.out.c (.head _) 2; obtain ⟨r3, f3⟩ := H2.out.c (.head _) 3
  simp at r0 r1 r2 r3
  have H3 : Hid _ := Bx.put (pre := []) (Bx.put (pre := []) (Bx.put (pre := []) (Bx.put (pre := []) H2.out 0 (.int .u32 (c : Int)) (cs' := #[.int .u32 (c : Int), .int .u32 0, .bool false, Value.slice none 0 0]) rfl) 1 (.int .u32 (k : Int)) (cs' := #[.int .u32 (c : Int), .int .u32 (k : Int), .bool false, Value.slice none 0 0]) rfl) 2 (.bool lg) (cs' := #[.int .u32 (c : Int), .int .u32 (k : Int), .bool lg, Value.slice none 0 0]) rfl) 3 (.slice ao2 d.length cap2) (cs' := #[.int .u32 (c : Int), .int .u32 (k : Int), .bool lg, .slice ao2 d.length cap2]) rfl
  clear H2
  go_wp2
  exact bodyPost_ret (results_cell_tmp2 rfl _ _ w.heap.size 57 #[.int .u32 (c : Int), .int .u32 (k : Int), .bool lg, .slice ao2 d.length cap2] (0, 0) _ rfl (H3.out.box _ (.head _)).1 Try.underlying57 rfl infoOpt) rfl ⟨c, k, lg, d, n, er, ao2, cap2, rfl, HDe.out, H3.out.row, HR.out, H3.out.bel⟩
theorem optD_k (most : Nat) (l : List Nat) (h : ∀ x ∈ l, x < 256) : (optD most l).1.2.1 < 4294967296 := by
  have hb : vl l 12 4 < 4294967296 := by have := valB_bound l 12 4 h; simpa [vl] using this
  unfold optD
  by_cases h1 : l.length < 16
  · rw [if_pos h1]; simp
  rw [if_neg h1]
  by_cases h2 : vl l 0 8 ≠ mHave
  · rw [if_pos h2]; simp
  rw [if_neg h2]
  by_cases h3 : most < vl l 12 4
  · rw [if_pos h3]; exact hb
  rw [if_neg h3]
  by_cases h4 : l.length < 16 + vl l 12 4
  · rw [if_pos h4]; simp
  rw [if_neg h4]; exact hb
theorem cut_k {most ov : Nat} {l : List Nat} (h : ∀ x ∈ l, x < 256) {c k : Nat} {lg : Bool} {d : List Nat} {cu : Nat} {l' : List Nat} (hc : cutOf (0, 0, false, []) ov l (optF most l) = ((c, k, lg, d), cu, l')) : k < 4294967296 := by
  have e : k = (cutOf (0, 0, false, []) ov l (optF most l)).1.2.1 := by rw [hc]
  rw [e]
  have hb := optD_k most l h
  unfold cutOf
  by_cases h0 : 0 < ov
  · rw [if_pos h0]; simp
  rw [if_neg h0]
  by_cases h1 : (optF most l).2.2 = 0
  · rw [if_pos h1]; exact hb
  rw [if_neg h1]
  by_cases h2 : (optF most l).2.2 = 10
  · rw [if_pos h2]; simp
  rw [if_neg h2]
  by_cases h3 : (optF most l).2.2 = 12
  · rw [if_pos h3]; simp
  rw [if_neg h3]; simp
/-- a cut of an option: the message, the answer, how many are to be passed over, what is held -/
def optC (most ov : Nat) (l : List Nat) : (Nat × Nat × Bool × List Nat) × Nat × Nat × List Nat :=
  let r := cutOf (0, 0, false, []) ov l (optF most l)
  if r.1.2.2.1 = true then (r.1, r.2.1, r.1.2.1 - min r.2.2.length r.1.2.1, r.2.2.drop (min r.2.2.length r.1.2.1)) else (r.1, r.2.1, ov, r.2.2)
def OptI (w : World) (B b : Nat) (v : Value) (rm : Nat) (x : (Nat × Nat × Bool × List Nat) × Nat × Nat × List Nat) (e : Ending) (w' : World) : Prop :=
  ∃ (c k : Nat) (lg : Bool) (d : List Nat) (cu ov' : Nat) (l' : List Nat) (v' : Value) (ao2 : Option Addr) (cap2 : Nat), e = .returned (.tuple #[.agg #[.int .u32 (c : Int), .int .u32 (k : Int), .bool lg, .slice ao2 d.length cap2], .int .i64 (cu : Int)]) ∧ x = ((c, k, lg, d), cu, ov', l') ∧ Inb w' B b v' rm ov' l' ∧ IAct w w' b v v' ∧ w'.ownsRow w.heap.size 5 1 (.slice ao2 d.length cap2) d.length (d.map bv) ∧ ∀ g, (Value.slice ao2 d.length cap2).ownBlock = some g → v'.ownBlock ≠ some g
theorem Cf.told2 {w W W' : World} {B b : Nat} {v v' v'' : Value} {rm ov ov' : Nat} {l l' : List Nat} {bs : List (Nat × Array Value × TypeId)} {dv dv' : Value} {d d' : List Nat} (h : Cf w W B b v v' rm ov l bs dv d) (hi : Inb W' B b v'' rm ov' l') (ha : IAct W W' b v' v'') (hr : W'.ownsRow W.heap.size 5 1 dv' d'.length (d'.map bv)) (hn : ∀ g, dv'.ownBlock = some g → v''.ownBlock ≠ some g) : Cf w W' B b v v'' rm ov' l' bs dv' d' := by
  have h2 := h.acts hi ha
  exact ⟨h2.inb, h2.act, h2.bw, h2.box, h2.nd, owns_mono hr h.act.kept.size, hn⟩
set_option maxHeartbeats 8000000 in
theorem optionI {w : World} {B b : Nat} {v : Value} {rm ov : Nat} {l : List Nat} (h : Inb w B b v rm ov l) (most : Nat) (hm : most < 4294967296) :
    Calls Try.prog 24 #[.pointer (some ⟨b, 0, none⟩), .int .u32 (most : Int)] w fun e w' => OptI w B b v rm (optC most ov l) e w' := by
  have h5 : 57 ≠ 5 := by decide
  have h6 : 36 ≠ 5 := by decide
  obtain ⟨ao, cap, hv, hcr⟩ := h.row.crow
  obtain ⟨W0, hW0⟩ : ∃ W0, W0 = (w.alloc (.cells #[.int .u32 (most : Int)] 36)).alloc (.cells #[.int .u32 0, .int .u32 0, .bool false, Value.slice none 0 0] 57) := ⟨_, rfl⟩
  have hC0 := ((Cf.start h).alloc #[.int .u32 (most : Int)] 36 h6).alloc #[.int .u32 0, .int .u32 0, .bool false, Value.slice none 0 0] 57 h5
  rw [World.size_alloc, ← hW0] at hC0
  have H0 : Hid _ := hC0
  have hb0 : Below w.heap.size w W0 := by rw [hW0]; exact bx2_bel w _ _
  have hpm : W0.cell? ⟨w.heap.size, 0, none⟩ = some (.int .u32 (most : Int)) := by
    have := (hC0.c (.tail _ (.head _)) 0).1
    simpa using this
  have HCt : Hid _ := cutOption hC0.inb #[.pointer (some ⟨w.heap.size, 0, none⟩)] (optF most l) (optF_n most l) (fun W hW => by
      have hc : CRow W ao cap l := (hcr.later hb0).later hW
      have := option1 ao cap l most w.heap.size W hc hm (cell_later hW hpm)
      rw [hv]
      exact this)
  have HLt : Hid (∀ x ∈ l, x < 256) := hcr.row.lt
  clear hC0 hpm hb0 hcr hv
  go_enter Try.func24, Try.ntmps24
  go_wp2_with fail
  rw [← hW0]
  clear hW0
  refine Calls.mono HCt.out ?_
  rintro e W1 ⟨c, k, lg, d, cu, l', v', ao2, cap2, rfl, hcut, hI, hA, hr, hn⟩
  have HCu : Hid _ := hcut
  have H1 : Hid _ := (H0.out.told2 hI hA hr hn).alloc #[.int .u32 (c : Int), .int .u32 (k : Int), .bool lg, .slice ao2 d.length cap2] 57 h5
  clear HCt hcut hI hA hr hn H0
  have hkb : k < 4294967296 := cut_k HLt.out HCu.out
  cases lg with
  | false =>
    have HF : Hid _ := Cf.put (pre := [_]) (Cf.put (pre := [_]) (Cf.put (pre := [_]) (Cf.put (pre := [_]) H1.out 0 (.int .u32 (c : Int)) (cs' := #[.int .u32 (c : Int), .int .u32 0, .bool false, Value.slice none 0 0]) rfl) 1 (.int .u32 (k : Int)) (cs' := #[.int .u32 (c : Int), .int .u32 (k : Int), .bool false, Value.slice none 0 0]) rfl) 2 (.bool false) (cs' := #[.int .u32 (c : Int), .int .u32 (k : Int), .bool false, Value.slice none 0 0]) rfl) 3 (.slice ao2 d.length cap2) (cs' := #[.int .u32 (c : Int), .int .u32 (k : Int), .bool false, .slice ao2 d.length cap2]) rfl
    obtain ⟨a0, _⟩ := H1.out.c (.head _) 0
    obtain ⟨r0, f0⟩ := H1.out.c (.tail _ (.head _)) 0
    obtain ⟨a1, _⟩ := H1.out.c (.head _) 1
    obtain ⟨r1, f1⟩ := H1.out.c (.tail _ (.head _)) 1
    obtain ⟨a2, _⟩ := H1.out.c (.head _) 2
    obtain ⟨r2, f2⟩ := H1.out.c (.tail _ (.head _)) 2
    obtain ⟨a3, _⟩ := H1.out.c (.head _) 3
    obtain ⟨r3, f3⟩ := H1.out.c (.tail _ (.head _)) 3
    simp at a0 r0 a1 r1 a2 r2 a3 r3
    clear H1
    go_wp2
    exact bodyPost_ret (results_cell_tmp1 rfl _ _ (w.heap.size + 1) 57 #[.int .u32 (c : Int), .int .u32 (k : Int), .bool false, .slice ao2 d.length cap2] (0, 0) _ rfl (HF.out.box _ (.tail _ (.head _))).1 Try.underlying57 rfl infoOpt) rfl ⟨c, k, false, d, cu, ov, l', v', ao2, cap2, rfl, by unfold optC; rw [HCu.out]; rfl, HF.out.inb, HF.out.act, HF.out.row, HF.out.rn⟩
  | true =>
    obtain ⟨p, hp⟩ : ∃ p, min l'.length k = p := ⟨_, rfl⟩
    have c1 := H1.out.inb.c 1
    have c2 := H1.out.inb.c 2
    have f2 := H1.out.inb.f 2
    simp at c1 c2
    obtain ⟨a0, _⟩ := H1.out.c (.head _) 0
    obtain ⟨r0, f0⟩ := H1.out.c (.tail _ (.head _)) 0
    obtain ⟨a1, _⟩ := H1.out.c (.head _) 1
    obtain ⟨r1, f1⟩ := H1.out.c (.tail _ (.head _)) 1
    obtain ⟨a2, _⟩ := H1.out.c (.head _) 2
    obtain ⟨r2, f2⟩ := H1.out.c (.tail _ (.head _)) 2
    obtain ⟨a3, _⟩ := H1.out.c (.head _) 3
    obtain ⟨r3, f3⟩ := H1.out.c (.tail _ (.head _)) 3
    simp at a0 r0 a1 r1 a2 r2 a3 r3
    have hPo := H1.out.inb.putO k hkb
    have H2 : Hid _ := H1.out.acts hPo.1 (IAct.ofKept hPo.2)
    have HPs : Hid _ := passI hPo.1 l'.length p (by have := hPo.1.row.len; omega) hp
    obtain ⟨vo, vc, hv', _⟩ := H1.out.inb.row.crow
    subst hv'
    clear H1 hPo
    go_wp2_with fail
    refine Calls.mono HPs.out ?_
    rintro e W3 ⟨rfl, hI3, hK3⟩
    have H3 : Hid _ := H2.out.acts hI3 (IAct.ofKept hK3)
    have HDr : Hid _ := dropI hI3 p (by omega)
    clear HPs H2 hI3 hK3
    go_wp2_with fail
    refine Calls.mono HDr.out ?_
    rintro e W4 ⟨rfl, v4, hI4, hA4⟩
    have H4 : Hid _ := H3.out.acts hI4 hA4
    clear HDr H3 hI4 hA4
    have HF : Hid _ := Cf.put (pre := [_]) (Cf.put (pre := [_]) (Cf.put (pre := [_]) (Cf.put (pre := [_]) H4.out 0 (.int .u32 (c : Int)) (cs' := #[.int .u32 (c : Int), .int .u32 0, .bool false, Value.slice none 0 0]) rfl) 1 (.int .u32 (k : Int)) (cs' := #[.int .u32 (c : Int), .int .u32 (k : Int), .bool false, Value.slice none 0 0]) rfl) 2 (.bool true) (cs' := #[.int .u32 (c : Int), .int .u32 (k : Int), .bool true, Value.slice none 0 0]) rfl) 3 (.slice ao2 d.length cap2) (cs' := #[.int .u32 (c : Int), .int .u32 (k : Int), .bool true, .slice ao2 d.length cap2]) rfl
    obtain ⟨a0, _⟩ := H4.out.c (.head _) 0
    obtain ⟨r0, f0⟩ := H4.out.c (.tail _ (.head _)) 0
    obtain ⟨a1, _⟩ := H4.out.c (.head _) 1
    obtain ⟨r1, f1⟩ := H4.out.c (.tail _ (.head _)) 1
    obtain ⟨a2, _⟩ := H4.out.c (.head _) 2
    obtain ⟨r2, f2⟩ := H4.out.c (.tail _ (.head _)) 2
    obtain ⟨a3, _⟩ := H4.out.c (.head _) 3
    obtain ⟨r3, f3⟩ := H4.out.c (.tail _ (.head _)) 3
    simp at a0 r0 a1 r1 a2 r2 a3 r3
    clear H4
    go_wp2
    exact bodyPost_ret (results_cell_tmp1 rfl _ _ (w.heap.size + 1) 57 #[.int .u32 (c : Int), .int .u32 (k : Int), .bool true, .slice ao2 d.length cap2] (0, 0) _ rfl (HF.out.box _ (.tail _ (.head _))).1 Try.underlying57 rfl infoOpt) rfl ⟨c, k, true, d, cu, k - p, l'.drop p, v4, ao2, cap2, rfl, by unfold optC; rw [HCu.out, ← hp]; rfl, HF.out.inb, HF.out.act, HF.out.row, HF.out.rn⟩
end Go.Proofs.Ytckfmpoddmccfaa

namespace Go.Proofs.Ytckfmpoddmccfaa
open Go.RowKit
set_option linter.unusedVariables false
set_option linter.unusedSimpArgs false
set_option maxRecDepth 100000
theorem or_join32 (v b : Nat) (hv : v < 16777216) (hb : b < 256) : bits .or .u32 ((v : Int) * 256) (b : Int) = ((v * 256 + b : Nat) : Int) := by
  have h1 := u32_or_nat (v * 256) b (by omega) (by omega)
  rw [nat_join 8 (v * 256) b (by omega) (by omega)] at h1
  rw [← h1]; simp
set_option maxHeartbeats 1000000 in
theorem number_some (g off cap n : Nat) (m : List Nat) (w : World) (hn : n ≤ 4) (HM : Hid (m.length = n)) (H256 : Hid (∀ x ∈ m, x < 256)) (HC : Hid (∀ k, k < n → w.cell? ⟨g, off + k, none⟩ = some (.int .u8 ((m[k]?.getD 0 : Nat) : Int)))) :
    Calls Try.prog 111 #[.slice (some ⟨g, off, none⟩) n cap] w fun e w' => e = .returned (.int .u32 (valB m : Nat)) ∧ ∃ q, w' = w.drewN q := by
  go_enter Try.func111, Try.ntmps111
  go_wp2
  go_loopw [3, 8] (fun v i wr => ∃ k q : Nat, k ≤ n ∧ i = .int .i64 k ∧ v = .int .u32 (valB (m.take k) : Nat) ∧ wr = w.drewN q) (fun _ i _ => n - (intOf i).toNat)
  case atStart => exact ⟨0, 0, Nat.zero_le _, rfl, rfl, rfl⟩
  case round =>
    obtain ⟨k, q, hk, rfl, rfl, rfl⟩ := hrel
    by_cases hlt : k < n
    · have hc := HC.out k hlt
      have hx : m[k]?.getD 0 < 256 := getD_lt m H256.out _
      have hv : valB (m.take k) < 256 ^ k := by
        have := valB_lt (m.take k) (fun x hx => H256.out x (List.mem_of_mem_take hx))
        have hln := HM.out
        rwa [List.length_take, Nat.min_eq_left (by omega)] at this
      have hv7 : valB (m.take k) < 16777216 := Nat.lt_of_lt_of_le hv (Nat.pow_le_pow_right (n := 256) (by decide) (by omega : k ≤ 3))
      have HS : Hid (valB (m.take (k + 1)) = valB (m.take k) * 256 + m[k]?.getD 0) := by
        have hln := HM.out
        show valB (m.take (k + 1)) = _
        rw [List.take_succ_eq_append_getElem (by omega), valB_snoc]
        simp [show k < m.length by omega]
      generalize valB (m.take k) = v at *
      generalize m[k]?.getD 0 = x at *
      have hor := or_join32 v x hv7 hx
      clear hv
      go_wp2
      go_roundw
      case rel => exact ⟨k + 1, q, by omega, by go_num, congrArg (Value.int .u32) (by rw [HS.out]; omega), rfl⟩
      case measure => simp [intOf]; omega
    · have ek : n = k := by omega
      subst ek
      have HE : Hid (m.take n = m) := by
        have := HM.out
        show m.take n = m
        exact List.take_of_length_le (by omega)
      go_wp2
      go_ret
      exact ⟨by rw [HE.out]; rfl, q, rfl⟩
/-- the first four bytes, as a number -/
theorem number_four {w : World} {b off cap : Nat} {l : List Nat} (h : CRow w (some ⟨b, off, none⟩) cap l) (h4 : 4 ≤ l.length) :
    Calls Try.prog 111 #[.slice (some ⟨b, off, none⟩) 4 cap] w fun e w' => e = .returned (.int .u32 (vl l 0 4 : Nat)) ∧ ∃ q, w' = w.drewN q := by
  have hne : l ≠ [] := by intro e; rw [e] at h4; simp at h4
  obtain ⟨b', off', e, hc⟩ := h.row.at_ hne
  simp only [Option.some.injEq, Addr.mk.injEq, and_true] at e
  obtain ⟨rfl, rfl⟩ := e
  have := number_some b off cap 4 (l.take 4) w (Nat.le_refl _) (show (l.take 4).length = 4 by rw [List.length_take]; omega) (show ∀ x ∈ l.take 4, x < 256 from fun x hx => h.row.lt x (List.mem_of_mem_take hx)) (show ∀ k, k < 4 → _ from fun k hk => by
    rw [hc k (by omega)]
    simp [bv, List.getElem?_take, hk, show k < l.length by omega])
  refine Calls.mono this ?_
  rintro e W ⟨rfl, hq⟩
  exact ⟨by simp [vl], hq⟩
end Go.Proofs.Ytckfmpoddmccfaa

namespace Go.Proofs.Ytckfmpoddmccfaa
open Go.RowKit
set_option linter.unusedVariables false
set_option linter.unusedSimpArgs false
set_option maxRecDepth 100000
abbrev ansZ : Bool × Nat × Nat × Nat × Nat × Nat × Nat × List Nat := (false, 0, 0, 0, 0, 0, 0, [])
/-- what the bytes of an answer say -/
def ansD (most : Nat) (ext : Bool) (l : List Nat) : (Bool × Nat × Nat × Nat × Nat × Nat × Nat × List Nat) × Nat × Nat :=
  if l.length < 4 then (ansZ, 4, 10)
  else if vl l 0 4 = cm ext then ((true, 0, 0, (chkD most ext l).1.1, (chkD most ext l).1.2.1, (chkD most ext l).1.2.2.1, (chkD most ext l).1.2.2.2.1, (chkD most ext l).1.2.2.2.2), (chkD most ext l).2)
  else if ext = false ∧ vl l 0 4 = mSimple then ((false, (simD l).1.1, (simD l).1.2, 0, 0, 0, 0, []), (simD l).2)
  else (ansZ, 0, 80)
theorem ansD_n (most : Nat) (ext : Bool) (l : List Nat) (h : (ansD most ext l).2.2 = 0) : (ansD most ext l).2.1 ≤ l.length := by
  unfold ansD at h ⊢
  by_cases h0 : l.length < 4
  · rw [if_pos h0] at h; simp at h
  rw [if_neg h0] at h ⊢
  by_cases h1 : vl l 0 4 = cm ext
  · rw [if_pos h1] at h ⊢; exact chkD_n most ext l h
  rw [if_neg h1] at h ⊢
  by_cases h2 : ext = false ∧ vl l 0 4 = mSimple
  · rw [if_pos h2] at h ⊢; exact simD_n l h
  rw [if_neg h2] at h; simp at h
def AnsP (D : (Bool × Nat × Nat × Nat × Nat × Nat × Nat × List Nat) × Nat × Nat) (w : World) (e : Ending) (w' : World) : Prop :=
  ∃ (st : Bool) (sc sk f t c o : Nat) (d : List Nat) (n er : Nat) (ao2 : Option Addr) (cap2 : Nat), e = .returned (.tuple #[.agg #[.bool st, .int .u32 (sc : Int), .int .u64 (sk : Int), .int .u16 (f : Int), .int .u16 (t : Int), .int .u64 (c : Int), .int .u64 (o : Int), .slice ao2 d.length cap2], .int .i64 (n : Int), .int .i64 (er : Int)]) ∧ D = ((st, sc, sk, f, t, c, o, d), n, er) ∧ Row w w' ao2 cap2 d
theorem Bx.drewN {w W : World} {bs : List (Nat × Array Value × TypeId)} {dv : Value} {d : List Nat} (h : Bx w W bs dv d) (q : Nat) : Bx w (W.drewN q) bs dv d := h.later ⟨rfl, rfl, rfl, Nat.le_refl _, fun _ _ => rfl⟩
theorem Below.drewQ (w : World) (q : Nat) : Below w.heap.size w (w.drewN q) := ⟨rfl, rfl, rfl, Nat.le_refl _, fun _ _ => rfl⟩
set_option maxHeartbeats 2000000 in
theorem decAnswer_short (ao : Option Addr) (cap n : Nat) (l : List Nat) (most : Nat) (ext : Bool) (w : World) (hl : l.length = n) (h4 : n < 4) :
    Calls Try.prog 81 #[.slice ao n cap, .int .u32 (most : Int), .bool ext] w fun e w' => AnsP (ansD most ext l) w e w' := by
  have h5 : 103 ≠ 5 := by decide
  have HE : Hid (ansD most ext l = (ansZ, 4, 10)) := by show ansD most ext l = _; unfold ansD; rw [if_pos (by omega)]
  have H3 : Hid _ := (Bx.start w).alloc #[.bool false, .int .u32 0, .int .u64 0, .int .u16 0, .int .u16 0, .int .u64 0, .int .u64 0, Value.slice none 0 0] 103 h5
  have t1 : (n : Int) < 4 := by omega
  have t2 : decide ((n : Int) < 4) = true := by simpa using t1
  clear hl
  go_enter Try.func81, Try.ntmps81
  go_wp2
  exact bodyPost_ret (results_cell_tmp2 rfl _ _ w.heap.size 103 #[.bool false, .int .u32 0, .int .u64 0, .int .u16 0, .int .u16 0, .int .u64 0, .int .u64 0, Value.slice none 0 0] (0, 0) _ rfl (H3.out.box _ (.head _)).1 Try.underlying103 rfl infoAns) rfl ⟨false, 0, 0, 0, 0, 0, 0, [], 4, 10, none, 0, rfl, HE.out, H3.out.row, by simp, H3.out.bel⟩
end Go.Proofs.Ytckfmpoddmccfaa

namespace Go.Proofs.Ytckfmpoddmccfaa
open Go.RowKit
set_option linter.unusedVariables false
set_option linter.unusedSimpArgs false
set_option maxRecDepth 100000
/-- so many bytes off the front -/
def datD (z : Int) (l : List Nat) : List Nat × Nat × Nat :=
  if z < 0 then ([], 0, 81) else if (l.length : Int) < z then ([], z.toNat, 10) else (l.take z.toNat, z.toNat, 0)
theorem datD_n (z : Int) (l : List Nat) (h : (datD z l).2.2 = 0) : (datD z l).2.1 ≤ l.length := by
  unfold datD at h ⊢
  by_cases h0 : z < 0
  · rw [if_pos h0] at h; simp at h
  rw [if_neg h0] at h ⊢
  by_cases h1 : (l.length : Int) < z
  · rw [if_pos h1] at h; simp at h
  rw [if_neg h1]; simp only; omega
def DatP (D : List Nat × Nat × Nat) (w : World) (e : Ending) (w' : World) : Prop :=
  ∃ (d : List Nat) (n er : Nat) (ao2 : Option Addr) (cap2 : Nat), e = .returned (.tuple #[.slice ao2 d.length cap2, .int .i64 (n : Int), .int .i64 (er : Int)]) ∧ D = (d, n, er) ∧ Row w w' ao2 cap2 d
set_option maxHeartbeats 1000000 in
theorem decData_neg (ao : Option Addr) (cap n : Nat) (l : List Nat) (z : Int) (w : World) (hz : z < 0) :
    Calls Try.prog 84 #[.slice ao n cap, .int .i64 z] w fun e w' => DatP (datD z l) w e w' := by
  have t2 : decide (z < 0) = true := by simpa using hz
  have HE : Hid (datD z l = ([], 0, 81)) := by show datD z l = _; unfold datD; rw [if_pos hz]
  go_enter Try.func84, Try.ntmps84
  go_wp2
  go_ret3
  exact ⟨[], 0, 81, none, 0, rfl, HE.out, World.ownsRow_nil _ _ _ _, by simp, Below.refl _ _⟩
set_option maxHeartbeats 1000000 in
theorem decData_short (ao : Option Addr) (cap n : Nat) (l : List Nat) (k : Nat) (w : World) (hl : l.length = n) (hz : n < k) :
    Calls Try.prog 84 #[.slice ao n cap, .int .i64 (k : Int)] w fun e w' => DatP (datD (k : Int) l) w e w' := by
  have u1 : ¬ ((k : Int) < 0) := by omega
  have u2 : decide ((k : Int) < 0) = false := by simp
  have t1 : (n : Int) < (k : Int) := by omega
  have t2 : decide ((n : Int) < (k : Int)) = true := by simpa using t1
  have HE : Hid (datD (k : Int) l = ([], k, 10)) := by show datD (k : Int) l = _; unfold datD; rw [if_neg u1, if_pos (by omega)]; simp
  clear hl
  go_enter Try.func84, Try.ntmps84
  go_wp2
  go_ret3
  exact ⟨[], k, 10, none, 0, rfl, HE.out, World.ownsRow_nil _ _ _ _, by simp, Below.refl _ _⟩
set_option maxHeartbeats 1000000 in
theorem decData_none (w : World) :
    Calls Try.prog 84 #[.slice none 0 0, .int .i64 0] w fun e w' => DatP (datD 0 []) w e w' := by
  obtain ⟨i0, hi, hz0, hz1, hz2⟩ := info_parts Try.info5
  go_enter Try.func84, Try.ntmps84
  go_wp2_with (at_builtin; refine wpList_append_own_none rfl _ _ 22 rfl w.heap.size 5 i0 1 Try.underlying22 hi _ 0 [] rfl (World.ownsRow_nil _ _ _ _) rfl ?_)
  go_ret3
  exact ⟨[], 0, 0, none, 0, rfl, by decide, World.ownsRow_nil _ _ _ _, by simp, Below.refl _ _⟩
set_option maxHeartbeats 2000000 in
theorem decData_ok (ad : Addr) (cap n : Nat) (l : List Nat) (k : Nat) (w : World) (h : CRow w (some ad) cap l) (hl : l.length = n) (hk : k ≤ n) :
    Calls Try.prog 84 #[.slice (some ad) n cap, .int .i64 (k : Int)] w fun e w' => DatP (datD (k : Int) l) w e w' := by
  obtain ⟨i0, hi, hz0, hz1, hz2⟩ := info_parts Try.info5
  obtain ⟨m, hm⟩ : ∃ m, l.take k = m := ⟨_, rfl⟩
  have HM : Hid (m.length = k) := by show m.length = k; rw [← hm, List.length_take]; omega
  have HX : Hid (∀ x ∈ m, x < 256) := fun x hx => h.row.lt x (List.mem_of_mem_take (hm ▸ hx))
  have HN : Hid (∀ j u, (m.map bv)[j]? = some u → w.cell? (ad.add j) = some u) := by
    intro j u hu
    have hM : m.length = k := HM.out
    rw [List.getElem?_map] at hu
    by_cases hj : j < m.length
    · rw [List.getElem?_eq_getElem hj] at hu
      obtain ⟨b', off', e, hc⟩ := h.row.at_ (by rintro rfl; simp at hl; omega)
      cases e
      simp only [Option.map_some, Option.some.injEq] at hu
      subst hu
      rw [add_plain, hc j (by omega)]
      subst hm
      simp
    · rw [List.getElem?_eq_none (by omega)] at hu; simp at hu
  have hlen := h.row.len
  have H1 : Hid (∀ u ∈ m.map bv, u.oneCell' = true) := by
    intro u hu
    obtain ⟨x, _, rfl⟩ := List.mem_map.1 hu
    rfl
  have u1 : ¬ ((k : Int) < 0) := by omega
  have u2 : decide ((k : Int) < 0) = false := by simp
  have t1 : ¬ ((n : Int) < (k : Int)) := by omega
  have t2 : decide ((n : Int) < (k : Int)) = false := by simpa using t1
  have HE : Hid (datD (k : Int) l = (m, k, 0)) := by show datD (k : Int) l = _; unfold datD; rw [if_neg u1, if_neg (by omega), ← hm]; simp
  have hc1 := h.cap1
  have hc2 := h.cap2
  have c4 : (k : Int) ≤ (cap : Int) := by omega
  have c5 : k ≤ cap := by omega
  have HML : Hid ((m.map bv).length = k) := by show (m.map bv).length = k; rw [List.length_map]; exact HM.out
  rw [hl] at hc1 hlen
  clear h hl hm
  go_enter Try.func84, Try.ntmps84
  go_wp2_with (at_builtin; refine wpList_append_own _ rfl _ _ 22 rfl w.heap.size 5 i0 (.int .u8 0) 1 1 Try.underlying22 hi hz0 hz1 hz2 rfl (by decide) _ 0 [] rfl (World.ownsRow_nil _ _ _ _) ad k cap (m.map bv) rfl (by rw [HML.out]; simp) HN.out H1.out (by unfold maxLen; omega) (by omega) (Nat.le_refl _) ?_)
  intro v' w1 hown hgrow _
  have hb : Below w.heap.size w w1 := (Below.refl _ _).grown hgrow (Nat.le_refl _) (by simp [Value.ownBlock])
  clear hgrow
  have ho : w1.ownsRow w.heap.size 5 1 v' m.length (m.map bv) := by
    rw [HM.out]; simpa using hown
  obtain ⟨ao2, cap2, rfl, _⟩ := BRow.own ho HX.out (by rw [HM.out]; omega)
  have HO : Hid _ := ho
  have HB : Hid _ := hb
  clear ho hown hb
  go_wp2
  go_ret3
  exact ⟨m, k, 0, ao2, cap2, rfl, HE.out, HO.out, HX.out, HB.out⟩
theorem decDataA (ao : Option Addr) (cap : Nat) (l : List Nat) (z : Int) (w : World) (h : CRow w ao cap l) :
    Calls Try.prog 84 #[.slice ao l.length cap, .int .i64 z] w fun e w' => DatP (datD z l) w e w' := by
  by_cases hz : z < 0
  · exact decData_neg ao cap l.length l z w hz
  obtain ⟨k, rfl⟩ := Int.eq_ofNat_of_zero_le (show 0 ≤ z by omega)
  by_cases hk : l.length < k
  · exact decData_short ao cap l.length l k w rfl hk
  cases ao with
  | none =>
    obtain ⟨rfl, rfl⟩ := h.row.nil rfl
    obtain rfl : k = 0 := by simp at hk; omega
    exact decData_none w
  | some ad => exact decData_ok ad cap l.length l k w h rfl (by omega)
end Go.Proofs.Ytckfmpoddmccfaa

namespace Go.Proofs.Ytckfmpoddmccfaa
open Go.RowKit
set_option linter.unusedVariables false
set_option linter.unusedSimpArgs false
set_option maxRecDepth 100000
theorem vl_at {l : List Nat} (pre : List Nat) (x k a : Nat) (tl : List Nat) (h : l = pre ++ (bigTo x k k ++ tl)) (ha : pre.length = a) (hx : x < 256 ^ k) : vl l a k = x := by
  unfold vl
  rw [h, ← ha, List.drop_left, List.take_append_of_le_length (by rw [bigTo_length]; omega), List.take_of_length_le (by rw [bigTo_length]; omega), valB_big x k hx]
theorem take_at {l : List Nat} (pre d m : List Nat) (a k : Nat) (h : l = pre ++ (d ++ m)) (ha : pre.length = a) (hk : d.length = k) : (l.drop a).take k = d := by
  rw [h, ← ha, List.drop_left, ← hk, List.take_append_of_le_length (Nat.le_refl _), List.take_of_length_le (Nat.le_refl _)]
theorem flaD_enc (f : Nat) (m : List Nat) (hf : f < 4294967296) : flaD (bigTo f 4 4 ++ m) = (f, 4, 0) := by
  unfold flaD
  have e : vl (bigTo f 4 4 ++ m) 0 4 = f := vl_at [] f 4 0 m rfl rfl (by omega)
  rw [if_neg (by simp [bigTo_length]), e]
theorem greD_enc (f : Nat) (m : List Nat) (hf : f < 65536) : greD (gL f ++ m) = (f, 18, 0) := by
  unfold greD
  have e0 : vl (gL f ++ m) 0 8 = mInit := vl_at [] mInit 8 0 (bigTo mHave 8 8 ++ (bigTo f 2 2 ++ m)) (by simp [gL, List.append_assoc]) rfl (by decide)
  have e1 : vl (gL f ++ m) 8 8 = mHave := vl_at (bigTo mInit 8 8) mHave 8 8 (bigTo f 2 2 ++ m) (by simp [gL, List.append_assoc]) (by simp [bigTo_length]) (by decide)
  have e2 : vl (gL f ++ m) 16 2 = f := vl_at (bigTo mInit 8 8 ++ bigTo mHave 8 8) f 2 16 m (by simp [gL, List.append_assoc]) (by simp [bigTo_length]) (by omega)
  rw [if_neg (by simp [gL, bigTo_length]; omega), e0, e1, e2]
  simp
theorem optD_enc (c : Nat) (d m : List Nat) (hc : c < 4294967296) (hd : d.length < 4294967296) : optD 4294967295 (oL c d ++ m) = ((c, d.length, false, d), 16 + d.length, 0) := by
  have hl : (oL c d ++ m).length = 16 + d.length + m.length := by simp [oL, bigTo_length]; omega
  have e0 : vl (oL c d ++ m) 0 8 = mHave := vl_at [] mHave 8 0 (bigTo c 4 4 ++ (bigTo d.length 4 4 ++ (d ++ m))) (by simp [oL, List.append_assoc]) rfl (by decide)
  have e1 : vl (oL c d ++ m) 8 4 = c := vl_at (bigTo mHave 8 8) c 4 8 (bigTo d.length 4 4 ++ (d ++ m)) (by simp [oL, List.append_assoc]) (by simp [bigTo_length]) (by omega)
  have e2 : vl (oL c d ++ m) 12 4 = d.length := vl_at (bigTo mHave 8 8 ++ bigTo c 4 4) d.length 4 12 (d ++ m) (by simp [oL, List.append_assoc]) (by simp [bigTo_length]) (by omega)
  have e3 : ((oL c d ++ m).drop 16).take d.length = d := take_at (bigTo mHave 8 8 ++ bigTo c 4 4 ++ bigTo d.length 4 4) d m 16 _ (by simp [oL, List.append_assoc]) (by simp [bigTo_length]) rfl
  unfold optD
  rw [e0, e1, e2, e3, hl, if_neg (by omega), if_neg (by simp), if_neg (by omega), if_neg (by omega)]
theorem repD_enc (o k : Nat) (d m : List Nat) (ho : o < 4294967296) (hk : k < 4294967296) (hd : d.length < 4294967296) : repD 4294967295 (rL o k d ++ m) = ((o, k, d), 20 + d.length, 0) := by
  have hl : (rL o k d ++ m).length = 20 + d.length + m.length := by simp [rL, bigTo_length]; omega
  have hmd : d.length % 4294967296 = d.length := Nat.mod_eq_of_lt hd
  have e0 : vl (rL o k d ++ m) 0 8 = mReply := vl_at [] mReply 8 0 (bigTo o 4 4 ++ (bigTo k 4 4 ++ (bigTo (d.length % 4294967296) 4 4 ++ (d ++ m)))) (by simp [rL, List.append_assoc]) rfl (by decide)
  have e1 : vl (rL o k d ++ m) 8 4 = o := vl_at (bigTo mReply 8 8) o 4 8 (bigTo k 4 4 ++ (bigTo (d.length % 4294967296) 4 4 ++ (d ++ m))) (by simp [rL, List.append_assoc]) (by simp [bigTo_length]) (by omega)
  have e2 : vl (rL o k d ++ m) 12 4 = k := vl_at (bigTo mReply 8 8 ++ bigTo o 4 4) k 4 12 (bigTo (d.length % 4294967296) 4 4 ++ (d ++ m)) (by simp [rL, List.append_assoc]) (by simp [bigTo_length]) (by omega)
  have e3 : vl (rL o k d ++ m) 16 4 = d.length := by
    rw [vl_at (bigTo mReply 8 8 ++ bigTo o 4 4 ++ bigTo k 4 4) (d.length % 4294967296) 4 16 (d ++ m) (by simp [rL, List.append_assoc]) (by simp [bigTo_length]) (by omega), hmd]
  have e4 : ((rL o k d ++ m).drop 20).take d.length = d := take_at (bigTo mReply 8 8 ++ bigTo o 4 4 ++ bigTo k 4 4 ++ bigTo (d.length % 4294967296) 4 4) d m 20 _ (by simp [rL, List.append_assoc]) (by simp [bigTo_length]) rfl
  unfold repD
  rw [e0, e1, e2, e3, e4, hl, if_neg (by omega), if_neg (by simp), if_neg (by omega), if_neg (by omega)]
theorem ansD_simple (c k most : Nat) (m : List Nat) (hc : c < 4294967296) (hk : k < 18446744073709551616) : ansD most false (sL c k ++ m) = ((false, c, k, 0, 0, 0, 0, []), 16, 0) := by
  have hl : (sL c k ++ m).length = 16 + m.length := by simp [sL, bigTo_length]; omega
  have e0 : vl (sL c k ++ m) 0 4 = mSimple := vl_at [] mSimple 4 0 (bigTo c 4 4 ++ (bigTo k 8 8 ++ m)) (by simp [sL, List.append_assoc]) rfl (by decide)
  have e1 : vl (sL c k ++ m) 4 4 = c := vl_at (bigTo mSimple 4 4) c 4 4 (bigTo k 8 8 ++ m) (by simp [sL, List.append_assoc]) (by simp [bigTo_length]) (by omega)
  have e2 : vl (sL c k ++ m) 8 8 = k := vl_at (bigTo mSimple 4 4 ++ bigTo c 4 4) k 8 8 m (by simp [sL, List.append_assoc]) (by simp [bigTo_length]) (by omega)
  unfold ansD simD
  rw [e0, e1, e2, hl, if_neg (by omega), if_neg (by decide), if_pos ⟨rfl, rfl⟩, if_neg (by omega), if_neg (by simp)]
theorem datD_enc (d m : List Nat) : datD (d.length : Int) (d ++ m) = (d, d.length, 0) := by
  unfold datD
  rw [if_neg (by omega), if_neg (by simp; omega)]
  simp
theorem reqD_enc (f t c o n : Nat) (d m : List Nat) (ext : Bool) (hf : f < 65536) (ht : t < 65536) (hc : c < 18446744073709551616) (ho : o < 18446744073709551616) (hn : n < 18446744073709551616) (hfit : fitB f t n d.length ext = true) (hd : d.length ≤ 4294967295) :
    reqD 4294967295 ext (qL f t c o n d ext ++ m) = ((f, t, c, o, n, d), qz ext + d.length, 0) := by
  have hf1 : ext = true ∨ n ≤ 4294967295 := by
    unfold fitB at hfit
    simp only [Bool.and_eq_true, Bool.or_eq_true, decide_eq_true_eq] at hfit
    exact hfit.1
  have hf2 : payB f t ext = true → n = d.length := fun hp => by
    unfold fitB at hfit
    rw [if_pos hp] at hfit
    simp only [Bool.and_eq_true, decide_eq_true_eq] at hfit
    exact hfit.2
  have hf3 : payB f t ext = false → d = [] := fun hp => by
    unfold fitB at hfit
    rw [if_neg (by simp [hp])] at hfit
    simp only [Bool.and_eq_true, decide_eq_true_eq] at hfit
    exact List.eq_nil_of_length_eq_zero hfit.2
  have hN : ∃ x, nL n ext = bigTo x (qk ext) (qk ext) ∧ x = n ∧ x < 256 ^ (qk ext) := by
    unfold nL qk
    cases ext
    · refine ⟨n % 4294967296, by simp, ?_, ?_⟩
      · rcases hf1 with h | h
        · simp at h
        · exact Nat.mod_eq_of_lt (by omega)
      · simp; omega
    · exact ⟨n, by simp, rfl, by simp; omega⟩
  obtain ⟨x, hx1, hx2, hx3⟩ := hN
  have hqm : (if ext = true then mReq64 else mReq) = qm ext := rfl
  have hqm4 : qm ext < 256 ^ 4 := by cases ext <;> decide
  have hq : qL f t c o n d ext ++ m = bigTo (qm ext) 4 4 ++ (bigTo f 2 2 ++ (bigTo t 2 2 ++ (bigTo c 8 8 ++ (bigTo o 8 8 ++ (bigTo x (qk ext) (qk ext) ++ (d ++ m)))))) := by
    unfold qL; rw [hx1, hqm]; simp [List.append_assoc]
  have hqz : qz ext = 24 + qk ext := by cases ext <;> rfl
  generalize hL : qL f t c o n d ext ++ m = l at hq
  have hl : l.length = qz ext + d.length + m.length := by rw [hq, hqz]; simp [bigTo_length]; omega
  have e0 : vl l 0 4 = qm ext := vl_at [] (qm ext) 4 0 _ (by rw [hq]; rfl) rfl hqm4
  have e1 : vl l 4 2 = f := vl_at (bigTo (qm ext) 4 4) f 2 4 _ hq (by simp [bigTo_length]) (by omega)
  have e2 : vl l 6 2 = t := vl_at (bigTo (qm ext) 4 4 ++ bigTo f 2 2) t 2 6 (bigTo c 8 8 ++ (bigTo o 8 8 ++ (bigTo x (qk ext) (qk ext) ++ (d ++ m)))) (by rw [hq]; simp [List.append_assoc]) (by simp [bigTo_length]) (by omega)
  have e3 : vl l 8 8 = c := vl_at (bigTo (qm ext) 4 4 ++ bigTo f 2 2 ++ bigTo t 2 2) c 8 8 (bigTo o 8 8 ++ (bigTo x (qk ext) (qk ext) ++ (d ++ m))) (by rw [hq]; simp [List.append_assoc]) (by simp [bigTo_length]) (by omega)
  have e4 : vl l 16 8 = o := vl_at (bigTo (qm ext) 4 4 ++ bigTo f 2 2 ++ bigTo t 2 2 ++ bigTo c 8 8) o 8 16 (bigTo x (qk ext) (qk ext) ++ (d ++ m)) (by rw [hq]; simp [List.append_assoc]) (by simp [bigTo_length]) (by omega)
  have e5 : vl l 24 (qk ext) = n := by
    rw [vl_at (bigTo (qm ext) 4 4 ++ bigTo f 2 2 ++ bigTo t 2 2 ++ bigTo c 8 8 ++ bigTo o 8 8) x (qk ext) 24 (d ++ m) (by rw [hq]; simp [List.append_assoc]) (by simp [bigTo_length]) hx3, hx2]
  have e6 : (l.drop (qz ext)).take d.length = d := take_at (bigTo (qm ext) 4 4 ++ bigTo f 2 2 ++ bigTo t 2 2 ++ bigTo c 8 8 ++ bigTo o 8 8 ++ bigTo x (qk ext) (qk ext)) d m (qz ext) _ (by rw [hq]; simp [List.append_assoc]) (by rw [hqz]; simp [bigTo_length]; omega) rfl
  unfold reqD
  rw [e0, e1, e2, e3, e4, e5, hl, if_neg (by omega), if_neg (by simp)]
  cases hp : payB f t ext
  · have := hf3 hp
    subst this
    rw [if_pos rfl]; simp
  · have := hf2 hp
    subst this
    rw [if_neg (by simp), if_neg (by omega), if_neg (by omega), e6]
theorem ansD_chunk (f t c o : Nat) (d m : List Nat) (ext : Bool) (hf : f < 65536) (ht : t < 65536) (hc : c < 18446744073709551616) (ho : o < 18446744073709551616) (hd : d.length ≤ 4294967295) :
    ansD 4294967295 ext ((if ext = true then cL64 f t c o d else cL f t c d) ++ m) = ((true, 0, 0, f, t, c, (if ext = true then o else 0), d), cz ext + d.length, 0) := by
  cases ext
  · have hq : cL f t c d ++ m = bigTo mChunk 4 4 ++ (bigTo f 2 2 ++ (bigTo t 2 2 ++ (bigTo c 8 8 ++ (bigTo d.length 4 4 ++ (d ++ m))))) := by
      have hmd : d.length % 4294967296 = d.length := Nat.mod_eq_of_lt (by omega)
      simp [cL, nL, hmd, List.append_assoc]
    show ansD 4294967295 false (cL f t c d ++ m) = _
    generalize hL : cL f t c d ++ m = l at hq
    have hl : l.length = 20 + d.length + m.length := by rw [hq]; simp [bigTo_length]; omega
    have e0 : vl l 0 4 = mChunk := vl_at [] mChunk 4 0 _ (by rw [hq]; rfl) rfl (by decide)
    have e1 : vl l 4 2 = f := vl_at (bigTo mChunk 4 4) f 2 4 _ hq (by simp [bigTo_length]) (by omega)
    have e2 : vl l 6 2 = t := vl_at (bigTo mChunk 4 4 ++ bigTo f 2 2) t 2 6 (bigTo c 8 8 ++ (bigTo d.length 4 4 ++ (d ++ m))) (by rw [hq]; simp [List.append_assoc]) (by simp [bigTo_length]) (by omega)
    have e3 : vl l 8 8 = c := vl_at (bigTo mChunk 4 4 ++ bigTo f 2 2 ++ bigTo t 2 2) c 8 8 (bigTo d.length 4 4 ++ (d ++ m)) (by rw [hq]; simp [List.append_assoc]) (by simp [bigTo_length]) (by omega)
    have e4 : vl l 16 4 = d.length := vl_at (bigTo mChunk 4 4 ++ bigTo f 2 2 ++ bigTo t 2 2 ++ bigTo c 8 8) d.length 4 16 (d ++ m) (by rw [hq]; simp [List.append_assoc]) (by simp [bigTo_length]) (by omega)
    have e6 : (l.drop 20).take d.length = d := take_at (bigTo mChunk 4 4 ++ bigTo f 2 2 ++ bigTo t 2 2 ++ bigTo c 8 8 ++ bigTo d.length 4 4) d m 20 _ (by rw [hq]; simp [List.append_assoc]) (by simp [bigTo_length]) rfl
    have hch : chkD 4294967295 false l = ((f, t, c, 0, d), 20 + d.length, 0) := by
      have z1 : cz false = 20 := rfl
      have z2 : cm false = mChunk := rfl
      have z3 : cln false l = d.length := by unfold cln; rw [if_neg (by simp), e4]
      have z4 : cof false l = 0 := by unfold cof; rw [if_neg (by simp)]
      unfold chkD
      rw [z1, z2, z3, z4, e0, e1, e2, e3, e6, hl, if_neg (by omega), if_neg (by simp), if_neg (by omega), if_neg (by omega)]
    unfold ansD
    rw [hch, hl, if_neg (by omega), if_pos (by rw [e0]; rfl)]
    rfl
  · have hq : cL64 f t c o d ++ m = bigTo mChunk64 4 4 ++ (bigTo f 2 2 ++ (bigTo t 2 2 ++ (bigTo c 8 8 ++ (bigTo o 8 8 ++ (bigTo d.length 8 8 ++ (d ++ m)))))) := by
      simp [cL64, nL, List.append_assoc]
    show ansD 4294967295 true (cL64 f t c o d ++ m) = _
    generalize hL : cL64 f t c o d ++ m = l at hq
    have hl : l.length = 32 + d.length + m.length := by rw [hq]; simp [bigTo_length]; omega
    have e0 : vl l 0 4 = mChunk64 := vl_at [] mChunk64 4 0 _ (by rw [hq]; rfl) rfl (by decide)
    have e1 : vl l 4 2 = f := vl_at (bigTo mChunk64 4 4) f 2 4 _ hq (by simp [bigTo_length]) (by omega)
    have e2 : vl l 6 2 = t := vl_at (bigTo mChunk64 4 4 ++ bigTo f 2 2) t 2 6 (bigTo c 8 8 ++ (bigTo o 8 8 ++ (bigTo d.length 8 8 ++ (d ++ m)))) (by rw [hq]; simp [List.append_assoc]) (by simp [bigTo_length]) (by omega)
    have e3 : vl l 8 8 = c := vl_at (bigTo mChunk64 4 4 ++ bigTo f 2 2 ++ bigTo t 2 2) c 8 8 (bigTo o 8 8 ++ (bigTo d.length 8 8 ++ (d ++ m))) (by rw [hq]; simp [List.append_assoc]) (by simp [bigTo_length]) (by omega)
    have e4 : vl l 16 8 = o := vl_at (bigTo mChunk64 4 4 ++ bigTo f 2 2 ++ bigTo t 2 2 ++ bigTo c 8 8) o 8 16 (bigTo d.length 8 8 ++ (d ++ m)) (by rw [hq]; simp [List.append_assoc]) (by simp [bigTo_length]) (by omega)
    have e5 : vl l 24 8 = d.length := vl_at (bigTo mChunk64 4 4 ++ bigTo f 2 2 ++ bigTo t 2 2 ++ bigTo c 8 8 ++ bigTo o 8 8) d.length 8 24 (d ++ m) (by rw [hq]; simp [List.append_assoc]) (by simp [bigTo_length]) (by omega)
    have e6 : (l.drop 32).take d.length = d := take_at (bigTo mChunk64 4 4 ++ bigTo f 2 2 ++ bigTo t 2 2 ++ bigTo c 8 8 ++ bigTo o 8 8 ++ bigTo d.length 8 8) d m 32 _ (by rw [hq]; simp [List.append_assoc]) (by simp [bigTo_length]) rfl
    have hch : chkD 4294967295 true l = ((f, t, c, o, d), 32 + d.length, 0) := by
      have z1 : cz true = 32 := rfl
      have z2 : cm true = mChunk64 := rfl
      have z3 : cln true l = d.length := by unfold cln; rw [if_pos rfl, e5]
      have z4 : cof true l = o := by unfold cof; rw [if_pos rfl, e4]
      unfold chkD
      rw [z1, z2, z3, z4, e0, e1, e2, e3, e6, hl, if_neg (by omega), if_neg (by simp), if_neg (by omega), if_neg (by omega)]
    unfold ansD
    rw [hch, hl, if_neg (by omega), if_pos (by rw [e0]; rfl)]
    rfl
end Go.Proofs.Ytckfmpoddmccfaa

namespace Go.Proofs.Ytckfmpoddmccfaa
open Go.RowKit
set_option linter.unusedVariables false
set_option linter.unusedSimpArgs false
set_option maxRecDepth 100000
set_option maxHeartbeats 4000000 in
theorem ofReplyG (w : World) (o : Nat) (k : Nat) (ao2 : Option Addr) (n2 cap2 : Nat) (cu : Int) (ho : o < 4294967296) (hk : k < 4294967296) : Calls Try.prog 34 #[.agg #[.int .u32 (o : Int), .int .u32 (k : Int), .slice ao2 n2 cap2], .int .i64 cu] w fun e w' => e = .returned (.agg #[.int .i64 cu, .int .u64 (o : Int), .int .u64 (k : Int), .int .u64 0, .int .u64 0, .int .u64 0, .int .u64 0, .int .u64 0, .int .u64 0, .slice ao2 n2 cap2]) ∧ Below w.heap.size w w' := by
  have ko : (o : Int) < 4294967296 := by omega
  have kk : (k : Int) < 4294967296 := by omega
  have HB : Hid (Below w.heap.size w ((w.alloc (.cells #[.int .u32 (o : Int), .int .u32 (k : Int), .slice ao2 n2 cap2] 62)).alloc (.cells #[.int .i64 cu, .int .u64 (o : Int), .int .u64 (k : Int), .int .u64 0, .int .u64 0, .int .u64 0, .int .u64 0, .int .u64 0, .int .u64 0, .slice ao2 n2 cap2] 41))) := bx2_bel w _ _
  have g1 : ((w.alloc (.cells #[.int .u32 (o : Int), .int .u32 (k : Int), .slice ao2 n2 cap2] 62)).alloc (.cells #[.int .i64 cu, .int .u64 (o : Int), .int .u64 (k : Int), .int .u64 0, .int .u64 0, .int .u64 0, .int .u64 0, .int .u64 0, .int .u64 0, .slice ao2 n2 cap2] 41)).heap[w.heap.size + 1]? = some (.cells #[.int .i64 cu, .int .u64 (o : Int), .int .u64 (k : Int), .int .u64 0, .int .u64 0, .int .u64 0, .int .u64 0, .int .u64 0, .int .u64 0, .slice ao2 n2 cap2] 41 (0, 0)) := by
    have h := heap_new (w.alloc (.cells #[.int .u32 (o : Int), .int .u32 (k : Int), .slice ao2 n2 cap2] 62)) (.cells #[.int .i64 cu, .int .u64 (o : Int), .int .u64 (k : Int), .int .u64 0, .int .u64 0, .int .u64 0, .int .u64 0, .int .u64 0, .int .u64 0, .slice ao2 n2 cap2] 41)
    rw [World.size_alloc] at h
    exact h
  have HG1 : Hid _ := g1
  have g0 : ((w.alloc (.cells #[.int .u32 (o : Int), .int .u32 (k : Int), .slice ao2 n2 cap2] 62)).alloc (.cells #[.int .i64 0, .int .u64 0, .int .u64 0, .int .u64 0, .int .u64 0, .int .u64 0, .int .u64 0, .int .u64 0, .int .u64 0, .slice none 0 0] 41)).heap[w.heap.size]? = some (.cells #[.int .u32 (o : Int), .int .u32 (k : Int), .slice ao2 n2 cap2] 62 (0, 0)) := by
    rw [Below.heap_alloc _ _ _ (by simp)]; exact heap_new w _
  have s0 := blk_at g0 0
  have s1 := blk_at g0 1
  have s2 := blk_at g0 2
  simp at s0 s1 s2
  clear g1 g0
  go_enter Try.func34, Try.ntmps34
  go_wp2
  exact bodyPost_ret (results_cell_one rfl _ _ (w.heap.size + 1) 41 #[.int .i64 cu, .int .u64 (o : Int), .int .u64 (k : Int), .int .u64 0, .int .u64 0, .int .u64 0, .int .u64 0, .int .u64 0, .int .u64 0, .slice ao2 n2 cap2] (0, 0) _ rfl HG1.out Try.underlying41 rfl infoC) rfl ⟨rfl, HB.out⟩
set_option maxHeartbeats 4000000 in
theorem ofRequestG (w : World) (f : Nat) (t : Nat) (c : Nat) (o : Nat) (k : Nat) (ao2 : Option Addr) (n2 cap2 : Nat) (cu : Int) (hf : f < 65536) (ht : t < 65536) : Calls Try.prog 37 #[.agg #[.int .u16 (f : Int), .int .u16 (t : Int), .int .u64 (c : Int), .int .u64 (o : Int), .int .u64 (k : Int), .slice ao2 n2 cap2], .int .i64 cu] w fun e w' => e = .returned (.agg #[.int .i64 cu, .int .u64 (f : Int), .int .u64 (t : Int), .int .u64 (c : Int), .int .u64 (o : Int), .int .u64 (k : Int), .int .u64 0, .int .u64 0, .int .u64 0, .slice ao2 n2 cap2]) ∧ Below w.heap.size w w' := by
  have kf : (f : Int) < 65536 := by omega
  have kt : (t : Int) < 65536 := by omega
  have HB : Hid (Below w.heap.size w ((w.alloc (.cells #[.int .u16 (f : Int), .int .u16 (t : Int), .int .u64 (c : Int), .int .u64 (o : Int), .int .u64 (k : Int), .slice ao2 n2 cap2] 60)).alloc (.cells #[.int .i64 cu, .int .u64 (f : Int), .int .u64 (t : Int), .int .u64 (c : Int), .int .u64 (o : Int), .int .u64 (k : Int), .int .u64 0, .int .u64 0, .int .u64 0, .slice ao2 n2 cap2] 41))) := bx2_bel w _ _
  have g1 : ((w.alloc (.cells #[.int .u16 (f : Int), .int .u16 (t : Int), .int .u64 (c : Int), .int .u64 (o : Int), .int .u64 (k : Int), .slice ao2 n2 cap2] 60)).alloc (.cells #[.int .i64 cu, .int .u64 (f : Int), .int .u64 (t : Int), .int .u64 (c : Int), .int .u64 (o : Int), .int .u64 (k : Int), .int .u64 0, .int .u64 0, .int .u64 0, .slice ao2 n2 cap2] 41)).heap[w.heap.size + 1]? = some (.cells #[.int .i64 cu, .int .u64 (f : Int), .int .u64 (t : Int), .int .u64 (c : Int), .int .u64 (o : Int), .int .u64 (k : Int), .int .u64 0, .int .u64 0, .int .u64 0, .slice ao2 n2 cap2] 41 (0, 0)) := by
    have h := heap_new (w.alloc (.cells #[.int .u16 (f : Int), .int .u16 (t : Int), .int .u64 (c : Int), .int .u64 (o : Int), .int .u64 (k : Int), .slice ao2 n2 cap2] 60)) (.cells #[.int .i64 cu, .int .u64 (f : Int), .int .u64 (t : Int), .int .u64 (c : Int), .int .u64 (o : Int), .int .u64 (k : Int), .int .u64 0, .int .u64 0, .int .u64 0, .slice ao2 n2 cap2] 41)
    rw [World.size_alloc] at h
    exact h
  have HG1 : Hid _ := g1
  have g0 : ((w.alloc (.cells #[.int .u16 (f : Int), .int .u16 (t : Int), .int .u64 (c : Int), .int .u64 (o : Int), .int .u64 (k : Int), .slice ao2 n2 cap2] 60)).alloc (.cells #[.int .i64 0, .int .u64 0, .int .u64 0, .int .u64 0, .int .u64 0, .int .u64 0, .int .u64 0, .int .u64 0, .int .u64 0, .slice none 0 0] 41)).heap[w.heap.size]? = some (.cells #[.int .u16 (f : Int), .int .u16 (t : Int), .int .u64 (c : Int), .int .u64 (o : Int), .int .u64 (k : Int), .slice ao2 n2 cap2] 60 (0, 0)) := by
    rw [Below.heap_alloc _ _ _ (by simp)]; exact heap_new w _
  have s0 := blk_at g0 0
  have s1 := blk_at g0 1
  have s2 := blk_at g0 2
  have s3 := blk_at g0 3
  have s4 := blk_at g0 4
  have s5 := blk_at g0 5
  simp at s0 s1 s2 s3 s4 s5
  clear g1 g0
  go_enter Try.func37, Try.ntmps37
  go_wp2
  exact bodyPost_ret (results_cell_one rfl _ _ (w.heap.size + 1) 41 #[.int .i64 cu, .int .u64 (f : Int), .int .u64 (t : Int), .int .u64 (c : Int), .int .u64 (o : Int), .int .u64 (k : Int), .int .u64 0, .int .u64 0, .int .u64 0, .slice ao2 n2 cap2] (0, 0) _ rfl HG1.out Try.underlying41 rfl infoC) rfl ⟨rfl, HB.out⟩
set_option maxHeartbeats 400000 in
theorem truthG (w : World) (b : Bool) : Calls Try.prog 70 #[.bool b] w fun e w' => e = .returned (.int .u64 (b.toNat : Int)) ∧ w' = w := by
  cases b <;>
  · go_enter Try.func70, Try.ntmps70
    go_wp2
    go_ret
    exact ⟨rfl, rfl⟩
theorem close10 {w Wx : World} {g : Nat} {t : TypeId} {a0 a1 a2 a3 a4 a5 a6 a7 a8 a9 : Value} (hbox : Wx.heap[g]? = some (.cells #[a0, a1, a2, a3, a4, a5, a6, a7, a8, a9] t (0, 0))) (hbel : Below w.heap.size w Wx) (hg : w.heap.size ≤ g) (v0 v1 v2 v3 v4 v5 v6 v7 v8 v9 : Value) :
    (((((((((((Wx.setCell ⟨g, 0, none⟩ v0).setCell ⟨g, 1, none⟩ v1).setCell ⟨g, 2, none⟩ v2).setCell ⟨g, 3, none⟩ v3).setCell ⟨g, 4, none⟩ v4).setCell ⟨g, 5, none⟩ v5).setCell ⟨g, 6, none⟩ v6).setCell ⟨g, 7, none⟩ v7).setCell ⟨g, 8, none⟩ v8).setCell ⟨g, 9, none⟩ v9).drew).heap[g]? = some (.cells #[v0, v1, v2, v3, v4, v5, v6, v7, v8, v9] t (0, 0)) ∧ Below w.heap.size w (((((((((((Wx.setCell ⟨g, 0, none⟩ v0).setCell ⟨g, 1, none⟩ v1).setCell ⟨g, 2, none⟩ v2).setCell ⟨g, 3, none⟩ v3).setCell ⟨g, 4, none⟩ v4).setCell ⟨g, 5, none⟩ v5).setCell ⟨g, 6, none⟩ v6).setCell ⟨g, 7, none⟩ v7).setCell ⟨g, 8, none⟩ v8).setCell ⟨g, 9, none⟩ v9).drew) := by
  have h0 := hbox
  have b0 := hbel
  have h1 : (Wx.setCell ⟨g, 0, none⟩ v0).heap[g]? = some (.cells #[v0, a1, a2, a3, a4, a5, a6, a7, a8, a9] t (0, 0)) := put_box h0 0 v0 (by simp)
  have b1 : Below w.heap.size w (Wx.setCell ⟨g, 0, none⟩ v0) := below_set b0 hg
  generalize (Wx.setCell ⟨g, 0, none⟩ v0) = Y1 at h1 b1 ⊢
  have h2 : (Y1.setCell ⟨g, 1, none⟩ v1).heap[g]? = some (.cells #[v0, v1, a2, a3, a4, a5, a6, a7, a8, a9] t (0, 0)) := put_box h1 1 v1 (by simp)
  have b2 : Below w.heap.size w (Y1.setCell ⟨g, 1, none⟩ v1) := below_set b1 hg
  generalize (Y1.setCell ⟨g, 1, none⟩ v1) = Y2 at h2 b2 ⊢
  have h3 : (Y2.setCell ⟨g, 2, none⟩ v2).heap[g]? = some (.cells #[v0, v1, v2, a3, a4, a5, a6, a7, a8, a9] t (0, 0)) := put_box h2 2 v2 (by simp)
  have b3 : Below w.heap.size w (Y2.setCell ⟨g, 2, none⟩ v2) := below_set b2 hg
  generalize (Y2.setCell ⟨g, 2, none⟩ v2) = Y3 at h3 b3 ⊢
  have h4 : (Y3.setCell ⟨g, 3, none⟩ v3).heap[g]? = some (.cells #[v0, v1, v2, v3, a4, a5, a6, a7, a8, a9] t (0, 0)) := put_box h3 3 v3 (by simp)
  have b4 : Below w.heap.size w (Y3.setCell ⟨g, 3, none⟩ v3) := below_set b3 hg
  generalize (Y3.setCell ⟨g, 3, none⟩ v3) = Y4 at h4 b4 ⊢
  have h5 : (Y4.setCell ⟨g, 4, none⟩ v4).heap[g]? = some (.cells #[v0, v1, v2, v3, v4, a5, a6, a7, a8, a9] t (0, 0)) := put_box h4 4 v4 (by simp)
  have b5 : Below w.heap.size w (Y4.setCell ⟨g, 4, none⟩ v4) := below_set b4 hg
  generalize (Y4.setCell ⟨g, 4, none⟩ v4) = Y5 at h5 b5 ⊢
  have h6 : (Y5.setCell ⟨g, 5, none⟩ v5).heap[g]? = some (.cells #[v0, v1, v2, v3, v4, v5, a6, a7, a8, a9] t (0, 0)) := put_box h5 5 v5 (by simp)
  have b6 : Below w.heap.size w (Y5.setCell ⟨g, 5, none⟩ v5) := below_set b5 hg
  generalize (Y5.setCell ⟨g, 5, none⟩ v5) = Y6 at h6 b6 ⊢
  have h7 : (Y6.setCell ⟨g, 6, none⟩ v6).heap[g]? = some (.cells #[v0, v1, v2, v3, v4, v5, v6, a7, a8, a9] t (0, 0)) := put_box h6 6 v6 (by simp)
  have b7 : Below w.heap.size w (Y6.setCell ⟨g, 6, none⟩ v6) := below_set b6 hg
  generalize (Y6.setCell ⟨g, 6, none⟩ v6) = Y7 at h7 b7 ⊢
  have h8 : (Y7.setCell ⟨g, 7, none⟩ v7).heap[g]? = some (.cells #[v0, v1, v2, v3, v4, v5, v6, v7, a8, a9] t (0, 0)) := put_box h7 7 v7 (by simp)
  have b8 : Below w.heap.size w (Y7.setCell ⟨g, 7, none⟩ v7) := below_set b7 hg
  generalize (Y7.setCell ⟨g, 7, none⟩ v7) = Y8 at h8 b8 ⊢
  have h9 : (Y8.setCell ⟨g, 8, none⟩ v8).heap[g]? = some (.cells #[v0, v1, v2, v3, v4, v5, v6, v7, v8, a9] t (0, 0)) := put_box h8 8 v8 (by simp)
  have b9 : Below w.heap.size w (Y8.setCell ⟨g, 8, none⟩ v8) := below_set b8 hg
  generalize (Y8.setCell ⟨g, 8, none⟩ v8) = Y9 at h9 b9 ⊢
  have h10 : (Y9.setCell ⟨g, 9, none⟩ v9).heap[g]? = some (.cells #[v0, v1, v2, v3, v4, v5, v6, v7, v8, v9] t (0, 0)) := put_box h9 9 v9 (by simp)
  have b10 : Below w.heap.size w (Y9.setCell ⟨g, 9, none⟩ v9) := below_set b9 hg
  generalize (Y9.setCell ⟨g, 9, none⟩ v9) = Y10 at h10 b10 ⊢
  exact ⟨h10, below_drew b10⟩
theorem wrapU (c : Nat) (h : c < 4294967296) : IntKind.u64.wrap (c : Int) = (c : Int) := by simp [IntKind.wrap, IntKind.bits, IntKind.signed]; omega
end Go.Proofs.Ytckfmpoddmccfaa

namespace Go.Proofs.Ytckfmpoddmccfaa
open Go.RowKit
set_option linter.unusedVariables false
set_option linter.unusedSimpArgs false
set_option maxRecDepth 100000
/-- a message of the law: its numbers and slices -/
structure MsF where
  kd : Int
  fl : Nat
  oc : Nat
  ol : Nat
  og : Bool
  oa : Option Addr
  on : Nat
  ocp : Nat
  qf : Nat
  qt : Nat
  qc : Nat
  qo : Nat
  ql : Nat
  qa : Option Addr
  qn : Nat
  qcp : Nat
  ro : Nat
  rk : Nat
  ra : Option Addr
  rn : Nat
  rcp : Nat
  cf : Nat
  ct : Nat
  cc : Nat
  co : Nat
  ca : Option Addr
  cn : Nat
  ccp : Nat
  sc : Nat
  sk : Nat
  da : Option Addr
  dn : Nat
  dcp : Nat
  wd : Bool
abbrev MsF.cells (m : MsF) : Array Value := #[.int .i64 m.kd, .int .u32 m.fl, .int .u32 m.oc, .int .u32 m.ol, .bool m.og, .slice m.oa m.on m.ocp, .int .u16 m.qf, .int .u16 m.qt, .int .u64 m.qc, .int .u64 m.qo, .int .u64 m.ql, .slice m.qa m.qn m.qcp, .int .u32 m.ro, .int .u32 m.rk, .slice m.ra m.rn m.rcp, .int .u16 m.cf, .int .u16 m.ct, .int .u64 m.cc, .int .u64 m.co, .slice m.ca m.cn m.ccp, .int .u32 m.sc, .int .u64 m.sk, .slice m.da m.dn m.dcp, .bool m.wd]
theorem alloc3_mid (w : World) (a b c : Obj) : (((w.alloc a).alloc b).alloc c).heap[w.heap.size + 1]? = some b := by
  have e : ((w.alloc a).alloc b).heap[w.heap.size + 1]? = some b := by
    have := heap_new (w.alloc a) b
    simpa using this
  have hb : Below ((w.alloc a).alloc b).heap.size ((w.alloc a).alloc b) (((w.alloc a).alloc b).alloc c) := (Below.refl _ _).alloc (Nat.le_refl _) c
  exact (hb.block _ (by simp)).trans e
theorem low32 (x : Nat) (h : x < 18446744073709551616) : bits .and .u64 (x : Int) 4294967295 = ((x % 4294967296 : Nat) : Int) := by
  have := u64_and_nat x 4294967295 h (by decide)
  rw [show (4294967295 : Int) = ((4294967295 : Nat) : Int) from rfl, this]
  congr 1
  exact Nat.and_two_pow_sub_one_eq_mod x 32
set_option maxHeartbeats 4000000 in
theorem asked_f1 (kd : Int) (fl oc ol : Nat) (og : Bool) (oa : Option Addr) (on ocp qf qt qc qo ql : Nat) (qa : Option Addr) (qn qcp ro rk : Nat) (ra : Option Addr) (rn rcp cf ct cc co : Nat) (ca : Option Addr) (cn ccp sc sk : Nat) (da : Option Addr) (dn dcp : Nat) (w : World) (hp : ((qt : Int) == 1) = true) (hq : qn < 9223372036854775808) :
    Calls Try.prog 50 #[.agg #[.int .i64 kd, .int .u32 fl, .int .u32 oc, .int .u32 ol, .bool og, .slice oa on ocp, .int .u16 qf, .int .u16 qt, .int .u64 qc, .int .u64 qo, .int .u64 ql, .slice qa qn qcp, .int .u32 ro, .int .u32 rk, .slice ra rn rcp, .int .u16 cf, .int .u16 ct, .int .u64 cc, .int .u64 co, .slice ca cn ccp, .int .u32 sc, .int .u64 sk, .slice da dn dcp, .bool false]] w fun e w' => e = .returned (.agg #[.int .u16 qf, .int .u16 qt, .int .u64 qc, .int .u64 qo, .int .u64 qn, .slice qa qn qcp]) ∧ Below w.heap.size w w' := by
  go_enter Try.func50, Try.ntmps50
  go_wp2
  exact bodyPost_ret (results_cell_one rfl _ _ (w.heap.size + 1) 60 #[.int .u16 qf, .int .u16 qt, .int .u64 qc, .int .u64 qo, .int .u64 qn, .slice qa qn qcp] (0, 0) _ rfl (alloc3_mid _ _ _ _) Try.underlying60 rfl infoReq) rfl ⟨rfl, (((Below.refl _ _).alloc (Nat.le_refl _) _).alloc (by simp) _).alloc (by simp; omega) _⟩
set_option maxHeartbeats 4000000 in
theorem asked_f0 (kd : Int) (fl oc ol : Nat) (og : Bool) (oa : Option Addr) (on ocp qf qt qc qo ql : Nat) (qa : Option Addr) (qn qcp ro rk : Nat) (ra : Option Addr) (rn rcp cf ct cc co : Nat) (ca : Option Addr) (cn ccp sc sk : Nat) (da : Option Addr) (dn dcp : Nat) (w : World) (hp : ((qt : Int) == 1) = false) (hq : ql < 18446744073709551616) :
    Calls Try.prog 50 #[.agg #[.int .i64 kd, .int .u32 fl, .int .u32 oc, .int .u32 ol, .bool og, .slice oa on ocp, .int .u16 qf, .int .u16 qt, .int .u64 qc, .int .u64 qo, .int .u64 ql, .slice qa qn qcp, .int .u32 ro, .int .u32 rk, .slice ra rn rcp, .int .u16 cf, .int .u16 ct, .int .u64 cc, .int .u64 co, .slice ca cn ccp, .int .u32 sc, .int .u64 sk, .slice da dn dcp, .bool false]] w fun e w' => e = .returned (.agg #[.int .u16 qf, .int .u16 qt, .int .u64 qc, .int .u64 qo, .int .u64 ((ql % 4294967296 : Nat) : Int), .slice none 0 0]) ∧ Below w.heap.size w w' := by
  have hm := low32 ql hq
  go_enter Try.func50, Try.ntmps50
  go_wp2
  exact bodyPost_ret (results_cell_one rfl _ _ (w.heap.size + 1) 60 #[.int .u16 qf, .int .u16 qt, .int .u64 qc, .int .u64 qo, .int .u64 ((ql % 4294967296 : Nat) : Int), .slice none 0 0] (0, 0) _ rfl (alloc3_mid _ _ _ _) Try.underlying60 rfl infoReq) rfl ⟨rfl, (((Below.refl _ _).alloc (Nat.le_refl _) _).alloc (by simp) _).alloc (by simp; omega) _⟩
set_option maxHeartbeats 4000000 in
theorem asked_t1 (kd : Int) (fl oc ol : Nat) (og : Bool) (oa : Option Addr) (on ocp qf qt qc qo ql : Nat) (qa : Option Addr) (qn qcp ro rk : Nat) (ra : Option Addr) (rn rcp cf ct cc co : Nat) (ca : Option Addr) (cn ccp sc sk : Nat) (da : Option Addr) (dn dcp : Nat) (w : World) (hp : (bits .and .u16 (qf : Int) 32 != 0) = true) (hq : qn < 9223372036854775808) :
    Calls Try.prog 50 #[.agg #[.int .i64 kd, .int .u32 fl, .int .u32 oc, .int .u32 ol, .bool og, .slice oa on ocp, .int .u16 qf, .int .u16 qt, .int .u64 qc, .int .u64 qo, .int .u64 ql, .slice qa qn qcp, .int .u32 ro, .int .u32 rk, .slice ra rn rcp, .int .u16 cf, .int .u16 ct, .int .u64 cc, .int .u64 co, .slice ca cn ccp, .int .u32 sc, .int .u64 sk, .slice da dn dcp, .bool true]] w fun e w' => e = .returned (.agg #[.int .u16 qf, .int .u16 qt, .int .u64 qc, .int .u64 qo, .int .u64 qn, .slice qa qn qcp]) ∧ Below w.heap.size w w' := by
  have hp2 : (bits .and .u16 (qf : Int) 32 == 0) = false := by simpa using hp
  go_enter Try.func50, Try.ntmps50
  go_wp2
  exact bodyPost_ret (results_cell_one rfl _ _ (w.heap.size + 1) 60 #[.int .u16 qf, .int .u16 qt, .int .u64 qc, .int .u64 qo, .int .u64 qn, .slice qa qn qcp] (0, 0) _ rfl (alloc3_mid _ _ _ _) Try.underlying60 rfl infoReq) rfl ⟨rfl, (((Below.refl _ _).alloc (Nat.le_refl _) _).alloc (by simp) _).alloc (by simp; omega) _⟩
set_option maxHeartbeats 4000000 in
theorem asked_t0 (kd : Int) (fl oc ol : Nat) (og : Bool) (oa : Option Addr) (on ocp qf qt qc qo ql : Nat) (qa : Option Addr) (qn qcp ro rk : Nat) (ra : Option Addr) (rn rcp cf ct cc co : Nat) (ca : Option Addr) (cn ccp sc sk : Nat) (da : Option Addr) (dn dcp : Nat) (w : World) (hp : (bits .and .u16 (qf : Int) 32 != 0) = false) (hq : ql < 18446744073709551616) :
    Calls Try.prog 50 #[.agg #[.int .i64 kd, .int .u32 fl, .int .u32 oc, .int .u32 ol, .bool og, .slice oa on ocp, .int .u16 qf, .int .u16 qt, .int .u64 qc, .int .u64 qo, .int .u64 ql, .slice qa qn qcp, .int .u32 ro, .int .u32 rk, .slice ra rn rcp, .int .u16 cf, .int .u16 ct, .int .u64 cc, .int .u64 co, .slice ca cn ccp, .int .u32 sc, .int .u64 sk, .slice da dn dcp, .bool true]] w fun e w' => e = .returned (.agg #[.int .u16 qf, .int .u16 qt, .int .u64 qc, .int .u64 qo, .int .u64 ql, .slice none 0 0]) ∧ Below w.heap.size w w' := by
  have hp2 : (bits .and .u16 (qf : Int) 32 == 0) = true := by simpa using hp
  go_enter Try.func50, Try.ntmps50
  go_wp2
  exact bodyPost_ret (results_cell_one rfl _ _ (w.heap.size + 1) 60 #[.int .u16 qf, .int .u16 qt, .int .u64 qc, .int .u64 qo, .int .u64 ql, .slice none 0 0] (0, 0) _ rfl (alloc3_mid _ _ _ _) Try.underlying60 rfl infoReq) rfl ⟨rfl, (((Below.refl _ _).alloc (Nat.le_refl _) _).alloc (by simp) _).alloc (by simp; omega) _⟩
def askN (m : MsF) : Nat := if payB m.qf m.qt m.wd = true then m.qn else if m.wd = true then m.ql else m.ql % 4294967296
def askS (m : MsF) : Value := if payB m.qf m.qt m.wd = true then .slice m.qa m.qn m.qcp else .slice none 0 0
theorem askedA (m : MsF) (w : World) (hn : m.qn < 9223372036854775808) (hl : m.ql < 18446744073709551616) :
    Calls Try.prog 50 #[.agg m.cells] w fun e w' => e = .returned (.agg #[.int .u16 m.qf, .int .u16 m.qt, .int .u64 m.qc, .int .u64 m.qo, .int .u64 (askN m), askS m]) ∧ Below w.heap.size w w' := by
  obtain ⟨kd, fl, oc, ol, og, oa, on, ocp, qf, qt, qc, qo, ql, qa, qn, qcp, ro, rk, ra, rn, rcp, cf, ct, cc, co, ca, cn, ccp, sc, sk, da, dn, dcp, wd⟩ := m
  unfold askN askS
  cases wd
  · cases hp : ((qt : Int) == 1)
    · have e : payB qf qt false = false := by simpa [payB] using hp
      simp only [e]
      exact asked_f0 _ _ _ _ _ _ _ _ _ _ _ _ _ _ _ _ _ _ _ _ _ _ _ _ _ _ _ _ _ _ _ _ _ _ hp hl
    · have e : payB qf qt false = true := by simpa [payB] using hp
      simp only [e]
      exact asked_f1 _ _ _ _ _ _ _ _ _ _ _ _ _ _ _ _ _ _ _ _ _ _ _ _ _ _ _ _ _ _ _ _ _ _ hp hn
  · cases hp : (bits .and .u16 (qf : Int) 32 != 0)
    · have e : payB qf qt true = false := by simpa [payB] using hp
      simp only [e]
      exact asked_t0 _ _ _ _ _ _ _ _ _ _ _ _ _ _ _ _ _ _ _ _ _ _ _ _ _ _ _ _ _ _ _ _ _ _ hp hl
    · have e : payB qf qt true = true := by simpa [payB] using hp
      simp only [e]
      exact asked_t1 _ _ _ _ _ _ _ _ _ _ _ _ _ _ _ _ _ _ _ _ _ _ _ _ _ _ _ _ _ _ _ _ _ _ hp hn
end Go.Proofs.Ytckfmpoddmccfaa

namespace Go.Proofs.Ytckfmpoddmccfaa
open Go.RowKit
set_option linter.unusedVariables false
set_option linter.unusedSimpArgs false
set_option maxRecDepth 100000

set_option maxHeartbeats 2000000 in
theorem encRequest_true (f t c o n : Nat) (ao : Option Addr) (cap : Nat) (d : List Nat) (w : World) (hf : f < 65536) (ht : t < 65536) (hc : c < 18446744073709551616) (ho : o < 18446744073709551616) (hn64 : n < 18446744073709551616) (hd : BRow w ao cap d) (hn : d.length ≤ 1099511627776) (hfit : fitB f t n d.length true = true) :
    Calls Try.prog 51 #[.agg #[.int .u16 (f : Int), .int .u16 (t : Int), .int .u64 (c : Int), .int .u64 (o : Int), .int .u64 (n : Int), .slice ao d.length cap], .bool true] w fun e w' => ∃ ao cap, e = .returned (.tuple #[.slice ao (qL f t c o n d true).length cap, .int .i64 0]) ∧ Row w w' ao cap (qL f t c o n d true) := by
  have hn0 := hn
  replace hd : Hid (BRow w ao cap d) := hd
  replace hn : Hid (d.length ≤ 1099511627776) := hn
  have hwl : IntKind.u64.wrap (d.length : Int) = (d.length : Int) := by rw [IntKind.wrap_u64]; omega
  obtain ⟨W0, hW0⟩ : ∃ W0, W0 = w.alloc (.cells #[.int .u16 (f : Int), .int .u16 (t : Int), .int .u64 (c : Int), .int .u64 (o : Int), .int .u64 (n : Int), .slice ao d.length cap] 60) := ⟨_, rfl⟩
  have hB0 : Below w.heap.size w W0 := by rw [hW0]; exact (Below.refl _ _).alloc (Nat.le_refl _) _
  have g0 : W0.heap[w.heap.size]? = some (.cells #[.int .u16 (f : Int), .int .u16 (t : Int), .int .u64 (c : Int), .int .u64 (o : Int), .int .u64 (n : Int), .slice ao d.length cap] 60 (0, 0)) := by rw [hW0]; exact heap_new w _
  have HFt : Hid (Calls Try.prog 90 #[.agg #[.int .u16 (f : Int), .int .u16 (t : Int), .int .u64 (c : Int), .int .u64 (o : Int), .int .u64 (n : Int), .slice ao d.length cap], .bool true] W0 fun e w' => e = .returned (.bool true) ∧ Below W0.heap.size W0 w') := by have := fits_any f t c o n ao cap d true W0 hn64 hn0; rw [hfit] at this; exact this
  have HRh : Hid (∀ W : World, Calls Try.prog 91 #[.bool true] W fun e W' => e = .returned (.tuple #[.int .u32 (mReq64 : Nat), .int .i64 32]) ∧ W' = W) := fun W => by
    go_enter Try.func91, Try.ntmps91
    go_wp2
    go_ret2
    exact ⟨rfl, rfl⟩
  have z0 := fun j => blk_at g0 j
  have y0 := z0 0; have y1 := z0 1; have y2 := z0 2; have y3 := z0 3; have y4 := z0 4; have y5 := z0 5
  simp at y0 y1 y2 y3 y4 y5
  clear z0
  go_enter Try.func51, Try.ntmps51
  go_wp2_with fail
  rw [← hW0]
  clear hW0
  refine HFt.out.mono ?_
  rintro e Wa ⟨rfl, hb⟩
  have hBa : Hid (Below w.heap.size w Wa) := hB0.trans (hb.mono hB0.size)
  have ga : Hid (Wa.heap[w.heap.size]? = some (.cells #[.int .u16 (f : Int), .int .u16 (t : Int), .int .u64 (c : Int), .int .u64 (o : Int), .int .u64 (n : Int), .slice ao d.length cap] 60 (0, 0))) := (hb.block _ (block_lt g0)).trans g0
  clear hb hB0 g0 HFt y0 y1 y2 y3 y4 y5
  go_wp2_with fail
  refine (HRh.out _).mono ?_
  rintro e W9 ⟨rfl, hw⟩
  rw [hw]; clear hw HRh
  go_wp2_with fail
  have h0 : Enc w (Wa.alloc (.cells #[.bool true, .slice none 0 0] 191)) w.heap.size Wa.heap.size (.slice none 0 0) [] (.cells #[.int .u16 (f : Int), .int .u16 (t : Int), .int .u64 (c : Int), .int .u64 (o : Int), .int .u64 (n : Int), .slice ao d.length cap] 60) := Enc.new hBa.out ga.out
  refine (newWriter_any Wa).mono ?_
  rintro e w1 ⟨rfl, rfl⟩
  generalize Wa.alloc (.cells #[.bool true, .slice none 0 0] 191) = W1 at *
  generalize Wa.heap.size = p at *
  have H1 : Hid _ := h0
  clear h0 hBa ga
  go_wp2_with fail
  refine (wu32_any w.heap.size p mReq64 _ _ W1 H1.out.ok (by decide) (by simp [bigTo_length, nL_length] <;> omega) H1.out.hB).mono ?_
  rintro e W2 ⟨rfl, v2, hp⟩
  have H2 : Hid _ := H1.out.step hp
  clear hp H1
  have c0 := H2.out.c 0
  simp at c0
  go_wp2_with fail
  refine (wu16_any w.heap.size p f v2 _ W2 H2.out.ok hf (by simp [bigTo_length, nL_length] <;> omega) H2.out.hB).mono ?_
  rintro e W3 ⟨rfl, v3, hp⟩
  have H3 : Hid _ := H2.out.step hp
  clear hp H2 c0
  have c1 := H3.out.c 1
  simp at c1
  go_wp2_with fail
  refine (wu16_any w.heap.size p t v3 _ W3 H3.out.ok ht (by simp [bigTo_length, nL_length] <;> omega) H3.out.hB).mono ?_
  rintro e W4 ⟨rfl, v4, hp⟩
  have H4 : Hid _ := H3.out.step hp
  clear hp H3 c1
  have c2 := H4.out.c 2
  simp at c2
  go_wp2_with fail
  refine (wu64_any w.heap.size p c v4 _ W4 H4.out.ok hc (by simp [bigTo_length, nL_length] <;> omega) H4.out.hB).mono ?_
  rintro e W5 ⟨rfl, v5, hp⟩
  have H5 : Hid _ := H4.out.step hp
  clear hp H4 c2
  have c3 := H5.out.c 3
  simp at c3
  go_wp2_with fail
  refine (wu64_any w.heap.size p o v5 _ W5 H5.out.ok ho (by simp [bigTo_length, nL_length] <;> omega) H5.out.hB).mono ?_
  rintro e W6 ⟨rfl, v6, hp⟩
  have H6 : Hid _ := H5.out.step hp
  clear hp H5 c3
  have c4 := H6.out.c 4
  simp at c4
  go_wp2_with fail
  refine (lay_any w.heap.size p n true v6 _ W6 H6.out.ok hn64 (by simp [bigTo_length, nL_length] <;> omega) H6.out.hB).mono ?_
  rintro e W7 ⟨rfl, v7, hp⟩
  have H7 : Hid _ := H6.out.step hp
  clear hp H6 c4
  have c5 := H7.out.c 5
  simp at c5
  go_wp2_with fail
  refine (wraw_any w.heap.size p v7 _ d ao cap d.length W7 H7.out.ok (hd.out.later H7.out.bel) rfl (by have := hn.out; simp [bigTo_length, nL_length] <;> omega) H7.out.hB).mono ?_
  rintro e W8 ⟨rfl, v8, hp⟩
  have H8 : Hid _ := H7.out.step hp
  clear hp H7 c5
  go_wp2_with fail
  refine (wout_any w.heap.size p v8 _ W8 H8.out.ok (by have := hn.out; simp [bigTo_length, nL_length] <;> omega)).mono ?_
  rintro e W9 ⟨ao', cap', he, ho, hb⟩
  have H9 : Hid _ := H8.out.out ho hb
  clear ho hb H8
  obtain ⟨m, hm⟩ : ∃ m, m = (qL f t c o n d true).length := ⟨_, rfl⟩
  obtain rfl : e = .returned (.slice ao' m cap') := by rw [hm]; exact he
  have HM : Hid (m = (qL f t c o n d true).length) := hm
  clear hm he
  go_wp2
  go_ret2
  exact ⟨_, _, by rw [← HM.out]; rfl, H9.out⟩
set_option maxHeartbeats 2000000 in
theorem encChunk_true (f t c o : Nat) (ao : Option Addr) (cap : Nat) (d : List Nat) (w : World) (hf : f < 65536) (ht : t < 65536) (hc : c < 18446744073709551616) (ho : o < 18446744073709551616) (hd : BRow w ao cap d) (hn : d.length ≤ 1099511627776) :
    Calls Try.prog 53 #[.agg #[.int .u16 (f : Int), .int .u16 (t : Int), .int .u64 (c : Int), .int .u64 (o : Int), .slice ao d.length cap], .bool true] w fun e w' => ∃ ao cap, e = .returned (.slice ao (cL64 f t c o d).length cap) ∧ Row w w' ao cap (cL64 f t c o d) := by
  have hn0 := hn
  replace hd : Hid (BRow w ao cap d) := hd
  replace hn : Hid (d.length ≤ 1099511627776) := hn
  have hwl : IntKind.u64.wrap (d.length : Int) = (d.length : Int) := by rw [IntKind.wrap_u64]; omega
  obtain ⟨W0, hW0⟩ : ∃ W0, W0 = w.alloc (.cells #[.int .u16 (f : Int), .int .u16 (t : Int), .int .u64 (c : Int), .int .u64 (o : Int), .slice ao d.length cap] 64) := ⟨_, rfl⟩
  have hB0 : Below w.heap.size w W0 := by rw [hW0]; exact (Below.refl _ _).alloc (Nat.le_refl _) _
  have g0 : W0.heap[w.heap.size]? = some (.cells #[.int .u16 (f : Int), .int .u16 (t : Int), .int .u64 (c : Int), .int .u64 (o : Int), .slice ao d.length cap] 64 (0, 0)) := by rw [hW0]; exact heap_new w _
  have HRh : Hid (∀ W : World, Calls Try.prog 94 #[.bool true] W fun e W' => e = .returned (.tuple #[.int .u32 (mChunk64 : Nat), .int .i64 32]) ∧ W' = W) := fun W => by
    go_enter Try.func94, Try.ntmps94
    go_wp2
    go_ret2
    exact ⟨rfl, rfl⟩
  go_enter Try.func53, Try.ntmps53
  go_wp2_with fail
  rw [← hW0]
  clear hW0
  refine (HRh.out _).mono ?_
  rintro e W9 ⟨rfl, hw⟩
  rw [hw]; clear hw HRh
  have hBa : Hid (Below w.heap.size w W0) := hB0
  have ga : Hid (W0.heap[w.heap.size]? = some (.cells #[.int .u16 (f : Int), .int .u16 (t : Int), .int .u64 (c : Int), .int .u64 (o : Int), .slice ao d.length cap] 64 (0, 0))) := g0
  clear hB0 g0
  go_wp2_with fail
  have h0 : Enc w (W0.alloc (.cells #[.bool true, .slice none 0 0] 191)) w.heap.size W0.heap.size (.slice none 0 0) [] (.cells #[.int .u16 (f : Int), .int .u16 (t : Int), .int .u64 (c : Int), .int .u64 (o : Int), .slice ao d.length cap] 64) := Enc.new hBa.out ga.out
  refine (newWriter_any W0).mono ?_
  rintro e w1 ⟨rfl, rfl⟩
  generalize W0.alloc (.cells #[.bool true, .slice none 0 0] 191) = W1 at *
  generalize W0.heap.size = p at *
  have H1 : Hid _ := h0
  clear h0 hBa ga
  go_wp2_with fail
  refine (wu32_any w.heap.size p mChunk64 _ _ W1 H1.out.ok (by decide) (by simp [bigTo_length, nL_length] <;> omega) H1.out.hB).mono ?_
  rintro e W2 ⟨rfl, v2, hp⟩
  have H2 : Hid _ := H1.out.step hp
  clear hp H1
  have c0 := H2.out.c 0
  simp at c0
  go_wp2_with fail
  refine (wu16_any w.heap.size p f v2 _ W2 H2.out.ok hf (by simp [bigTo_length, nL_length] <;> omega) H2.out.hB).mono ?_
  rintro e W3 ⟨rfl, v3, hp⟩
  have H3 : Hid _ := H2.out.step hp
  clear hp H2 c0
  have c1 := H3.out.c 1
  simp at c1
  go_wp2_with fail
  refine (wu16_any w.heap.size p t v3 _ W3 H3.out.ok ht (by simp [bigTo_length, nL_length] <;> omega) H3.out.hB).mono ?_
  rintro e W4 ⟨rfl, v4, hp⟩
  have H4 : Hid _ := H3.out.step hp
  clear hp H3 c1
  have c2 := H4.out.c 2
  simp at c2
  go_wp2_with fail
  refine (wu64_any w.heap.size p c v4 _ W4 H4.out.ok hc (by simp [bigTo_length, nL_length] <;> omega) H4.out.hB).mono ?_
  rintro e W5 ⟨rfl, v5, hp⟩
  have H5 : Hid _ := H4.out.step hp
  clear hp H4 c2
  have c3 := H5.out.c 3
  simp at c3
  go_wp2_with fail
  refine (wu64_any w.heap.size p o v5 _ W5 H5.out.ok ho (by simp [bigTo_length, nL_length] <;> omega) H5.out.hB).mono ?_
  rintro e W6 ⟨rfl, v6, hp⟩
  have H6 : Hid _ := H5.out.step hp
  clear hp H5 c3
  have c4 := H6.out.c 4
  simp at c4
  go_wp2_with fail
  refine (lay_any w.heap.size p d.length true v6 _ W6 H6.out.ok (by omega) (by simp [bigTo_length, nL_length] <;> omega) H6.out.hB).mono ?_
  rintro e W7 ⟨rfl, v7, hp⟩
  have H7 : Hid _ := H6.out.step hp
  clear hp H6 c4
  have c4 := H7.out.c 4
  simp at c4
  go_wp2_with fail
  refine (wraw_any w.heap.size p v7 _ d ao cap d.length W7 H7.out.ok (hd.out.later H7.out.bel) rfl (by have := hn.out; simp [bigTo_length, nL_length] <;> omega) H7.out.hB).mono ?_
  rintro e W8 ⟨rfl, v8, hp⟩
  have H8 : Hid _ := H7.out.step hp
  clear hp H7 c4
  go_wp2_with fail
  refine (wout_any w.heap.size p v8 _ W8 H8.out.ok (by have := hn.out; simp [bigTo_length, nL_length] <;> omega)).mono ?_
  rintro e W9 ⟨ao', cap', he, ho, hb⟩
  have H9 : Hid _ := H8.out.out ho hb
  clear ho hb H8
  obtain ⟨m, hm⟩ : ∃ m, m = (cL64 f t c o d).length := ⟨_, rfl⟩
  obtain rfl : e = .returned (.slice ao' m cap') := by rw [hm]; exact he
  have HM : Hid (m = (cL64 f t c o d).length) := hm
  clear hm he
  go_wp2
  go_ret
  exact ⟨_, _, by rw [← HM.out]; rfl, H9.out⟩
set_option maxHeartbeats 2000000 in
theorem encRequest_false (f t c o n : Nat) (ao : Option Addr) (cap : Nat) (d : List Nat) (w : World) (hf : f < 65536) (ht : t < 65536) (hc : c < 18446744073709551616) (ho : o < 18446744073709551616) (hn64 : n < 18446744073709551616) (hd : BRow w ao cap d) (hn : d.length ≤ 1099511627776) (hfit : fitB f t n d.length false = true) :
    Calls Try.prog 51 #[.agg #[.int .u16 (f : Int), .int .u16 (t : Int), .int .u64 (c : Int), .int .u64 (o : Int), .int .u64 (n : Int), .slice ao d.length cap], .bool false] w fun e w' => ∃ ao cap, e = .returned (.tuple #[.slice ao (qL f t c o n d false).length cap, .int .i64 0]) ∧ Row w w' ao cap (qL f t c o n d false) := by
  have hn0 := hn
  replace hd : Hid (BRow w ao cap d) := hd
  replace hn : Hid (d.length ≤ 1099511627776) := hn
  have hwl : IntKind.u64.wrap (d.length : Int) = (d.length : Int) := by rw [IntKind.wrap_u64]; omega
  obtain ⟨W0, hW0⟩ : ∃ W0, W0 = w.alloc (.cells #[.int .u16 (f : Int), .int .u16 (t : Int), .int .u64 (c : Int), .int .u64 (o : Int), .int .u64 (n : Int), .slice ao d.length cap] 60) := ⟨_, rfl⟩
  have hB0 : Below w.heap.size w W0 := by rw [hW0]; exact (Below.refl _ _).alloc (Nat.le_refl _) _
  have g0 : W0.heap[w.heap.size]? = some (.cells #[.int .u16 (f : Int), .int .u16 (t : Int), .int .u64 (c : Int), .int .u64 (o : Int), .int .u64 (n : Int), .slice ao d.length cap] 60 (0, 0)) := by rw [hW0]; exact heap_new w _
  have HFt : Hid (Calls Try.prog 90 #[.agg #[.int .u16 (f : Int), .int .u16 (t : Int), .int .u64 (c : Int), .int .u64 (o : Int), .int .u64 (n : Int), .slice ao d.length cap], .bool false] W0 fun e w' => e = .returned (.bool true) ∧ Below W0.heap.size W0 w') := by have := fits_any f t c o n ao cap d false W0 hn64 hn0; rw [hfit] at this; exact this
  have HRh : Hid (∀ W : World, Calls Try.prog 91 #[.bool false] W fun e W' => e = .returned (.tuple #[.int .u32 (mReq : Nat), .int .i64 28]) ∧ W' = W) := fun W => by
    go_enter Try.func91, Try.ntmps91
    go_wp2
    go_ret2
    exact ⟨rfl, rfl⟩
  have z0 := fun j => blk_at g0 j
  have y0 := z0 0; have y1 := z0 1; have y2 := z0 2; have y3 := z0 3; have y4 := z0 4; have y5 := z0 5
  simp at y0 y1 y2 y3 y4 y5
  clear z0
  go_enter Try.func51, Try.ntmps51
  go_wp2_with fail
  rw [← hW0]
  clear hW0
  refine HFt.out.mono ?_
  rintro e Wa ⟨rfl, hb⟩
  have hBa : Hid (Below w.heap.size w Wa) := hB0.trans (hb.mono hB0.size)
  have ga : Hid (Wa.heap[w.heap.size]? = some (.cells #[.int .u16 (f : Int), .int .u16 (t : Int), .int .u64 (c : Int), .int .u64 (o : Int), .int .u64 (n : Int), .slice ao d.length cap] 60 (0, 0))) := (hb.block _ (block_lt g0)).trans g0
  clear hb hB0 g0 HFt y0 y1 y2 y3 y4 y5
  go_wp2_with fail
  refine (HRh.out _).mono ?_
  rintro e W9 ⟨rfl, hw⟩
  rw [hw]; clear hw HRh
  go_wp2_with fail
  have h0 : Enc w (Wa.alloc (.cells #[.bool true, .slice none 0 0] 191)) w.heap.size Wa.heap.size (.slice none 0 0) [] (.cells #[.int .u16 (f : Int), .int .u16 (t : Int), .int .u64 (c : Int), .int .u64 (o : Int), .int .u64 (n : Int), .slice ao d.length cap] 60) := Enc.new hBa.out ga.out
  refine (newWriter_any Wa).mono ?_
  rintro e w1 ⟨rfl, rfl⟩
  generalize Wa.alloc (.cells #[.bool true, .slice none 0 0] 191) = W1 at *
  generalize Wa.heap.size = p at *
  have H1 : Hid _ := h0
  clear h0 hBa ga
  go_wp2_with fail
  refine (wu32_any w.heap.size p mReq _ _ W1 H1.out.ok (by decide) (by simp [bigTo_length, nL_length] <;> omega) H1.out.hB).mono ?_
  rintro e W2 ⟨rfl, v2, hp⟩
  have H2 : Hid _ := H1.out.step hp
  clear hp H1
  have c0 := H2.out.c 0
  simp at c0
  go_wp2_with fail
  refine (wu16_any w.heap.size p f v2 _ W2 H2.out.ok hf (by simp [bigTo_length, nL_length] <;> omega) H2.out.hB).mono ?_
  rintro e W3 ⟨rfl, v3, hp⟩
  have H3 : Hid _ := H2.out.step hp
  clear hp H2 c0
  have c1 := H3.out.c 1
  simp at c1
  go_wp2_with fail
  refine (wu16_any w.heap.size p t v3 _ W3 H3.out.ok ht (by simp [bigTo_length, nL_length] <;> omega) H3.out.hB).mono ?_
  rintro e W4 ⟨rfl, v4, hp⟩
  have H4 : Hid _ := H3.out.step hp
  clear hp H3 c1
  have c2 := H4.out.c 2
  simp at c2
  go_wp2_with fail
  refine (wu64_any w.heap.size p c v4 _ W4 H4.out.ok hc (by simp [bigTo_length, nL_length] <;> omega) H4.out.hB).mono ?_
  rintro e W5 ⟨rfl, v5, hp⟩
  have H5 : Hid _ := H4.out.step hp
  clear hp H4 c2
  have c3 := H5.out.c 3
  simp at c3
  go_wp2_with fail
  refine (wu64_any w.heap.size p o v5 _ W5 H5.out.ok ho (by simp [bigTo_length, nL_length] <;> omega) H5.out.hB).mono ?_
  rintro e W6 ⟨rfl, v6, hp⟩
  have H6 : Hid _ := H5.out.step hp
  clear hp H5 c3
  have c4 := H6.out.c 4
  simp at c4
  go_wp2_with fail
  refine (lay_any w.heap.size p n false v6 _ W6 H6.out.ok hn64 (by simp [bigTo_length, nL_length] <;> omega) H6.out.hB).mono ?_
  rintro e W7 ⟨rfl, v7, hp⟩
  have H7 : Hid _ := H6.out.step hp
  clear hp H6 c4
  have c5 := H7.out.c 5
  simp at c5
  go_wp2_with fail
  refine (wraw_any w.heap.size p v7 _ d ao cap d.length W7 H7.out.ok (hd.out.later H7.out.bel) rfl (by have := hn.out; simp [bigTo_length, nL_length] <;> omega) H7.out.hB).mono ?_
  rintro e W8 ⟨rfl, v8, hp⟩
  have H8 : Hid _ := H7.out.step hp
  clear hp H7 c5
  go_wp2_with fail
  refine (wout_any w.heap.size p v8 _ W8 H8.out.ok (by have := hn.out; simp [bigTo_length, nL_length] <;> omega)).mono ?_
  rintro e W9 ⟨ao', cap', he, ho, hb⟩
  have H9 : Hid _ := H8.out.out ho hb
  clear ho hb H8
  obtain ⟨m, hm⟩ : ∃ m, m = (qL f t c o n d false).length := ⟨_, rfl⟩
  obtain rfl : e = .returned (.slice ao' m cap') := by rw [hm]; exact he
  have HM : Hid (m = (qL f t c o n d false).length) := hm
  clear hm he
  go_wp2
  go_ret2
  exact ⟨_, _, by rw [← HM.out]; rfl, H9.out⟩
set_option maxHeartbeats 2000000 in
theorem encChunk_false (f t c o : Nat) (ao : Option Addr) (cap : Nat) (d : List Nat) (w : World) (hf : f < 65536) (ht : t < 65536) (hc : c < 18446744073709551616) (ho : o < 18446744073709551616) (hd : BRow w ao cap d) (hn : d.length ≤ 1099511627776) :
    Calls Try.prog 53 #[.agg #[.int .u16 (f : Int), .int .u16 (t : Int), .int .u64 (c : Int), .int .u64 (o : Int), .slice ao d.length cap], .bool false] w fun e w' => ∃ ao cap, e = .returned (.slice ao (cL f t c d).length cap) ∧ Row w w' ao cap (cL f t c d) := by
  have hn0 := hn
  replace hd : Hid (BRow w ao cap d) := hd
  replace hn : Hid (d.length ≤ 1099511627776) := hn
  have hwl : IntKind.u64.wrap (d.length : Int) = (d.length : Int) := by rw [IntKind.wrap_u64]; omega
  obtain ⟨W0, hW0⟩ : ∃ W0, W0 = w.alloc (.cells #[.int .u16 (f : Int), .int .u16 (t : Int), .int .u64 (c : Int), .int .u64 (o : Int), .slice ao d.length cap] 64) := ⟨_, rfl⟩
  have hB0 : Below w.heap.size w W0 := by rw [hW0]; exact (Below.refl _ _).alloc (Nat.le_refl _) _
  have g0 : W0.heap[w.heap.size]? = some (.cells #[.int .u16 (f : Int), .int .u16 (t : Int), .int .u64 (c : Int), .int .u64 (o : Int), .slice ao d.length cap] 64 (0, 0)) := by rw [hW0]; exact heap_new w _
  have HRh : Hid (∀ W : World, Calls Try.prog 94 #[.bool false] W fun e W' => e = .returned (.tuple #[.int .u32 (mChunk : Nat), .int .i64 20]) ∧ W' = W) := fun W => by
    go_enter Try.func94, Try.ntmps94
    go_wp2
    go_ret2
    exact ⟨rfl, rfl⟩
  go_enter Try.func53, Try.ntmps53
  go_wp2_with fail
  rw [← hW0]
  clear hW0
  refine (HRh.out _).mono ?_
  rintro e W9 ⟨rfl, hw⟩
  rw [hw]; clear hw HRh
  have hBa : Hid (Below w.heap.size w W0) := hB0
  have ga : Hid (W0.heap[w.heap.size]? = some (.cells #[.int .u16 (f : Int), .int .u16 (t : Int), .int .u64 (c : Int), .int .u64 (o : Int), .slice ao d.length cap] 64 (0, 0))) := g0
  clear hB0 g0
  go_wp2_with fail
  have h0 : Enc w (W0.alloc (.cells #[.bool true, .slice none 0 0] 191)) w.heap.size W0.heap.size (.slice none 0 0) [] (.cells #[.int .u16 (f : Int), .int .u16 (t : Int), .int .u64 (c : Int), .int .u64 (o : Int), .slice ao d.length cap] 64) := Enc.new hBa.out ga.out
  refine (newWriter_any W0).mono ?_
  rintro e w1 ⟨rfl, rfl⟩
  generalize W0.alloc (.cells #[.bool true, .slice none 0 0] 191) = W1 at *
  generalize W0.heap.size = p at *
  have H1 : Hid _ := h0
  clear h0 hBa ga
  go_wp2_with fail
  refine (wu32_any w.heap.size p mChunk _ _ W1 H1.out.ok (by decide) (by simp [bigTo_length, nL_length] <;> omega) H1.out.hB).mono ?_
  rintro e W2 ⟨rfl, v2, hp⟩
  have H2 : Hid _ := H1.out.step hp
  clear hp H1
  have c0 := H2.out.c 0
  simp at c0
  go_wp2_with fail
  refine (wu16_any w.heap.size p f v2 _ W2 H2.out.ok hf (by simp [bigTo_length, nL_length] <;> omega) H2.out.hB).mono ?_
  rintro e W3 ⟨rfl, v3, hp⟩
  have H3 : Hid _ := H2.out.step hp
  clear hp H2 c0
  have c1 := H3.out.c 1
  simp at c1
  go_wp2_with fail
  refine (wu16_any w.heap.size p t v3 _ W3 H3.out.ok ht (by simp [bigTo_length, nL_length] <;> omega) H3.out.hB).mono ?_
  rintro e W4 ⟨rfl, v4, hp⟩
  have H4 : Hid _ := H3.out.step hp
  clear hp H3 c1
  have c2 := H4.out.c 2
  simp at c2
  go_wp2_with fail
  refine (wu64_any w.heap.size p c v4 _ W4 H4.out.ok hc (by simp [bigTo_length, nL_length] <;> omega) H4.out.hB).mono ?_
  rintro e W5 ⟨rfl, v5, hp⟩
  have H5 : Hid _ := H4.out.step hp
  clear hp H4 c2
  have c4 := H5.out.c 4
  simp at c4
  go_wp2_with fail
  refine (lay_any w.heap.size p d.length false v5 _ W5 H5.out.ok (by omega) (by simp [bigTo_length, nL_length] <;> omega) H5.out.hB).mono ?_
  rintro e W6 ⟨rfl, v6, hp⟩
  have H6 : Hid _ := H5.out.step hp
  clear hp H5 c4
  have c4 := H6.out.c 4
  simp at c4
  go_wp2_with fail
  refine (wraw_any w.heap.size p v6 _ d ao cap d.length W6 H6.out.ok (hd.out.later H6.out.bel) rfl (by have := hn.out; simp [bigTo_length, nL_length] <;> omega) H6.out.hB).mono ?_
  rintro e W7 ⟨rfl, v7, hp⟩
  have H7 : Hid _ := H6.out.step hp
  clear hp H6 c4
  go_wp2_with fail
  refine (wout_any w.heap.size p v7 _ W7 H7.out.ok (by have := hn.out; simp [bigTo_length, nL_length] <;> omega)).mono ?_
  rintro e W8 ⟨ao', cap', he, ho, hb⟩
  have H8 : Hid _ := H7.out.out ho hb
  clear ho hb H7
  obtain ⟨m, hm⟩ : ∃ m, m = (cL f t c d).length := ⟨_, rfl⟩
  obtain rfl : e = .returned (.slice ao' m cap') := by rw [hm]; exact he
  have HM : Hid (m = (cL f t c d).length) := hm
  clear hm he
  go_wp2
  go_ret
  exact ⟨_, _, by rw [← HM.out]; rfl, H8.out⟩
set_option maxHeartbeats 1000000 in
theorem encRequest_bad (f t c o n : Nat) (ao : Option Addr) (cap : Nat) (d : List Nat) (ext : Bool) (w : World) (hn64 : n < 18446744073709551616) (hn : d.length ≤ 1099511627776) (hfit : fitB f t n d.length ext = false) :
    Calls Try.prog 51 #[.agg #[.int .u16 (f : Int), .int .u16 (t : Int), .int .u64 (c : Int), .int .u64 (o : Int), .int .u64 (n : Int), .slice ao d.length cap], .bool ext] w fun e w' => e = .returned (.tuple #[.slice none 0 0, .int .i64 81]) ∧ Below w.heap.size w w' := by
  obtain ⟨W0, hW0⟩ : ∃ W0, W0 = w.alloc (.cells #[.int .u16 (f : Int), .int .u16 (t : Int), .int .u64 (c : Int), .int .u64 (o : Int), .int .u64 (n : Int), .slice ao d.length cap] 60) := ⟨_, rfl⟩
  have hB0 : Below w.heap.size w W0 := by rw [hW0]; exact (Below.refl _ _).alloc (Nat.le_refl _) _
  have HFt : Hid (Calls Try.prog 90 #[.agg #[.int .u16 (f : Int), .int .u16 (t : Int), .int .u64 (c : Int), .int .u64 (o : Int), .int .u64 (n : Int), .slice ao d.length cap], .bool ext] W0 fun e w' => e = .returned (.bool false) ∧ Below W0.heap.size W0 w') := by have := fits_any f t c o n ao cap d ext W0 hn64 hn; rw [hfit] at this; exact this
  go_enter Try.func51, Try.ntmps51
  go_wp2_with fail
  rw [← hW0]
  clear hW0
  refine HFt.out.mono ?_
  rintro e Wa ⟨rfl, hb⟩
  have hBa : Hid (Below w.heap.size w Wa) := hB0.trans (hb.mono hB0.size)
  clear hb hB0 HFt
  go_wp2
  go_ret2
  exact ⟨rfl, hBa.out⟩
set_option maxHeartbeats 1000000 in
theorem encOption_bad (c k : Nat) (lg : Bool) (ao : Option Addr) (cap : Nat) (d : List Nat) (w : World) (hk : k < 4294967296) (hn : d.length ≤ 1099511627776) (hbad : lg = true ∨ k ≠ d.length) :
    Calls Try.prog 22 #[.agg #[.int .u32 (c : Int), .int .u32 (k : Int), .bool lg, .slice ao d.length cap]] w fun e w' => e = .returned (.tuple #[.slice none 0 0, .int .i64 81]) ∧ Below w.heap.size w w' := by
  have hB0 : Hid (Below w.heap.size w (w.alloc (.cells #[.int .u32 (c : Int), .int .u32 (k : Int), .bool lg, .slice ao d.length cap] 57))) := (Below.refl _ _).alloc (Nat.le_refl _) _
  have hwl : IntKind.u64.wrap (d.length : Int) = (d.length : Int) := by rw [IntKind.wrap_u64]; omega
  cases lg with
  | true =>
    go_enter Try.func22, Try.ntmps22
    go_wp2
    go_ret2
    exact ⟨rfl, hB0.out⟩
  | false =>
    have hne : k ≠ d.length := hbad.elim (fun h => by cases h) id
    have h1 : ¬ ((k : Int) = (d.length : Int)) := by omega
    have h2 : ((k : Int) != (d.length : Int)) = true := by simp; omega
    go_enter Try.func22, Try.ntmps22
    go_wp2
    go_ret2
    exact ⟨rfl, hB0.out⟩
end Go.Proofs.Ytckfmpoddmccfaa

namespace Go.Proofs.Ytckfmpoddmccfaa
open Go.RowKit
set_option linter.unusedVariables false
set_option linter.unusedSimpArgs false
set_option maxRecDepth 100000
theorem Row.from {w W w' : World} {ao : Option Addr} {cap : Nat} {l : List Nat} (hb : Below w.heap.size w W) (h : Row W w' ao cap l) : Row w w' ao cap l :=
  ⟨owns_mono h.own hb.size, h.lt, hb.trans (h.bel.mono hb.size)⟩
abbrev LaidP (w : World) (B : List Nat) (ok : Bool) (e : Ending) (w' : World) : Prop := ∃ ao cap, e = .returned (.tuple #[.slice ao B.length cap, .bool ok]) ∧ Row w w' ao cap B
set_option maxHeartbeats 4000000 in
theorem laid_1 (fl oc ol : Nat) (og : Bool) (oa : Option Addr) (on ocp qf qt qc qo ql : Nat) (qa : Option Addr) (qn qcp ro rk : Nat) (ra : Option Addr) (rn rcp cf ct cc co : Nat) (ca : Option Addr) (cn ccp sc sk : Nat) (da : Option Addr) (dn dcp : Nat) (wd : Bool) (w : World) (hfl : fl < 4294967296) :
    Calls Try.prog 20 #[.agg #[.int .i64 1, .int .u32 fl, .int .u32 oc, .int .u32 ol, .bool og, .slice oa on ocp, .int .u16 qf, .int .u16 qt, .int .u64 qc, .int .u64 qo, .int .u64 ql, .slice qa qn qcp, .int .u32 ro, .int .u32 rk, .slice ra rn rcp, .int .u16 cf, .int .u16 ct, .int .u64 cc, .int .u64 co, .slice ca cn ccp, .int .u32 sc, .int .u64 sk, .slice da dn dcp, .bool wd]] w fun e w' => LaidP w (bigTo fl 4 4) true e w' := by
  have hB : Below w.heap.size w (w.alloc (.cells #[.int .i64 1, .int .u32 fl, .int .u32 oc, .int .u32 ol, .bool og, .slice oa on ocp, .int .u16 qf, .int .u16 qt, .int .u64 qc, .int .u64 qo, .int .u64 ql, .slice qa qn qcp, .int .u32 ro, .int .u32 rk, .slice ra rn rcp, .int .u16 cf, .int .u16 ct, .int .u64 cc, .int .u64 co, .slice ca cn ccp, .int .u32 sc, .int .u64 sk, .slice da dn dcp, .bool wd] 68)) := (Below.refl _ _).alloc (Nat.le_refl _) _
  have HE : Hid _ := encFlags fl (w.alloc (.cells #[.int .i64 1, .int .u32 fl, .int .u32 oc, .int .u32 ol, .bool og, .slice oa on ocp, .int .u16 qf, .int .u16 qt, .int .u64 qc, .int .u64 qo, .int .u64 ql, .slice qa qn qcp, .int .u32 ro, .int .u32 rk, .slice ra rn rcp, .int .u16 cf, .int .u16 ct, .int .u64 cc, .int .u64 co, .slice ca cn ccp, .int .u32 sc, .int .u64 sk, .slice da dn dcp, .bool wd] 68)) hfl
  have HB : Hid _ := hB
  clear hB
  go_enter Try.func20, Try.ntmps20
  go_wp2_with fail
  refine Calls.mono HE.out ?_
  rintro e w1 ⟨ao, cap, rfl, hr⟩
  have HR : Hid _ := Row.from HB.out hr
  clear hr HE HB
  go_wp2
  go_ret2
  refine ⟨ao, cap, ?_, HR.out⟩
  rw [bigTo_length]
  rfl
set_option maxHeartbeats 4000000 in
theorem laid_4 (fl oc ol : Nat) (og : Bool) (oa : Option Addr) (on ocp qf qt qc qo ql : Nat) (qa : Option Addr) (qn qcp ro rk : Nat) (ra : Option Addr) (rn rcp cf ct cc co : Nat) (ca : Option Addr) (cn ccp sc sk : Nat) (da : Option Addr) (dn dcp : Nat) (wd : Bool) (w : World) (rd : List Nat) (hrn : rd.length = rn) (hrd : BRow w ra rcp rd) (hro : ro < 4294967296) (hrk : rk < 4294967296) (hl : rd.length ≤ 1048576) :
    Calls Try.prog 20 #[.agg #[.int .i64 4, .int .u32 fl, .int .u32 oc, .int .u32 ol, .bool og, .slice oa on ocp, .int .u16 qf, .int .u16 qt, .int .u64 qc, .int .u64 qo, .int .u64 ql, .slice qa qn qcp, .int .u32 ro, .int .u32 rk, .slice ra rn rcp, .int .u16 cf, .int .u16 ct, .int .u64 cc, .int .u64 co, .slice ca cn ccp, .int .u32 sc, .int .u64 sk, .slice da dn dcp, .bool wd]] w fun e w' => LaidP w (rL ro rk rd) true e w' := by
  have hB : Below w.heap.size w (w.alloc (.cells #[.int .i64 4, .int .u32 fl, .int .u32 oc, .int .u32 ol, .bool og, .slice oa on ocp, .int .u16 qf, .int .u16 qt, .int .u64 qc, .int .u64 qo, .int .u64 ql, .slice qa qn qcp, .int .u32 ro, .int .u32 rk, .slice ra rn rcp, .int .u16 cf, .int .u16 ct, .int .u64 cc, .int .u64 co, .slice ca cn ccp, .int .u32 sc, .int .u64 sk, .slice da dn dcp, .bool wd] 68)) := (Below.refl _ _).alloc (Nat.le_refl _) _
  have h0 := encReply ro rk ra rcp rd (w.alloc (.cells #[.int .i64 4, .int .u32 fl, .int .u32 oc, .int .u32 ol, .bool og, .slice oa on ocp, .int .u16 qf, .int .u16 qt, .int .u64 qc, .int .u64 qo, .int .u64 ql, .slice qa qn qcp, .int .u32 ro, .int .u32 rk, .slice ra rn rcp, .int .u16 cf, .int .u16 ct, .int .u64 cc, .int .u64 co, .slice ca cn ccp, .int .u32 sc, .int .u64 sk, .slice da dn dcp, .bool wd] 68)) hro hrk (hrd.later hB) (by omega)
  rw [hrn] at h0
  have HE : Hid _ := h0
  clear h0
  have HB : Hid _ := hB
  clear hB
  go_enter Try.func20, Try.ntmps20
  go_wp2_with fail
  refine Calls.mono HE.out ?_
  rintro e w1 ⟨ao, cap, rfl, hr⟩
  have HR : Hid _ := Row.from HB.out hr
  clear hr HE HB
  go_wp2
  go_ret2
  exact ⟨_, _, rfl, HR.out⟩
set_option maxHeartbeats 4000000 in
theorem laid_6 (fl oc ol : Nat) (og : Bool) (oa : Option Addr) (on ocp qf qt qc qo ql : Nat) (qa : Option Addr) (qn qcp ro rk : Nat) (ra : Option Addr) (rn rcp cf ct cc co : Nat) (ca : Option Addr) (cn ccp sc sk : Nat) (da : Option Addr) (dn dcp : Nat) (wd : Bool) (w : World) (hfl : fl < 4294967296) :
    Calls Try.prog 20 #[.agg #[.int .i64 6, .int .u32 fl, .int .u32 oc, .int .u32 ol, .bool og, .slice oa on ocp, .int .u16 qf, .int .u16 qt, .int .u64 qc, .int .u64 qo, .int .u64 ql, .slice qa qn qcp, .int .u32 ro, .int .u32 rk, .slice ra rn rcp, .int .u16 cf, .int .u16 ct, .int .u64 cc, .int .u64 co, .slice ca cn ccp, .int .u32 sc, .int .u64 sk, .slice da dn dcp, .bool wd]] w fun e w' => LaidP w (gL (fl % 65536)) true e w' := by
  have hB : Below w.heap.size w (w.alloc (.cells #[.int .i64 6, .int .u32 fl, .int .u32 oc, .int .u32 ol, .bool og, .slice oa on ocp, .int .u16 qf, .int .u16 qt, .int .u64 qc, .int .u64 qo, .int .u64 ql, .slice qa qn qcp, .int .u32 ro, .int .u32 rk, .slice ra rn rcp, .int .u16 cf, .int .u16 ct, .int .u64 cc, .int .u64 co, .slice ca cn ccp, .int .u32 sc, .int .u64 sk, .slice da dn dcp, .bool wd] 68)) := (Below.refl _ _).alloc (Nat.le_refl _) _
  have hw : IntKind.u16.wrap (fl : Int) = ((fl % 65536 : Nat) : Int) := by simp [IntKind.wrap, IntKind.bits, IntKind.signed]
  have HE : Hid _ := encGreeting (fl % 65536) (w.alloc (.cells #[.int .i64 6, .int .u32 fl, .int .u32 oc, .int .u32 ol, .bool og, .slice oa on ocp, .int .u16 qf, .int .u16 qt, .int .u64 qc, .int .u64 qo, .int .u64 ql, .slice qa qn qcp, .int .u32 ro, .int .u32 rk, .slice ra rn rcp, .int .u16 cf, .int .u16 ct, .int .u64 cc, .int .u64 co, .slice ca cn ccp, .int .u32 sc, .int .u64 sk, .slice da dn dcp, .bool wd] 68)) (Nat.mod_lt _ (by decide))
  have HB : Hid _ := hB
  clear hB
  go_enter Try.func20, Try.ntmps20
  go_wp2_with fail
  refine Calls.mono HE.out ?_
  rintro e w1 ⟨ao, cap, rfl, hr⟩
  have HR : Hid _ := Row.from HB.out hr
  clear hr HE HB
  go_wp2
  go_ret2
  exact ⟨_, _, rfl, HR.out⟩
set_option maxHeartbeats 4000000 in
theorem laid_5t (fl oc ol : Nat) (og : Bool) (oa : Option Addr) (on ocp qf qt qc qo ql : Nat) (qa : Option Addr) (qn qcp ro rk : Nat) (ra : Option Addr) (rn rcp cf ct cc co : Nat) (ca : Option Addr) (cn ccp sc sk : Nat) (da : Option Addr) (dn dcp : Nat) (w : World) (cd : List Nat) (hcn : cd.length = cn) (hcd : BRow w ca ccp cd) (hcf : cf < 65536) (hct : ct < 65536) (hcc : cc < 18446744073709551616) (hco : co < 18446744073709551616) (hl : cd.length ≤ 1048576) :
    Calls Try.prog 20 #[.agg #[.int .i64 5, .int .u32 fl, .int .u32 oc, .int .u32 ol, .bool og, .slice oa on ocp, .int .u16 qf, .int .u16 qt, .int .u64 qc, .int .u64 qo, .int .u64 ql, .slice qa qn qcp, .int .u32 ro, .int .u32 rk, .slice ra rn rcp, .int .u16 cf, .int .u16 ct, .int .u64 cc, .int .u64 co, .slice ca cn ccp, .int .u32 sc, .int .u64 sk, .slice da dn dcp, .bool true]] w fun e w' => LaidP w (cL64 cf ct cc co cd) true e w' := by
  have hB : Below w.heap.size w (w.alloc (.cells #[.int .i64 5, .int .u32 fl, .int .u32 oc, .int .u32 ol, .bool og, .slice oa on ocp, .int .u16 qf, .int .u16 qt, .int .u64 qc, .int .u64 qo, .int .u64 ql, .slice qa qn qcp, .int .u32 ro, .int .u32 rk, .slice ra rn rcp, .int .u16 cf, .int .u16 ct, .int .u64 cc, .int .u64 co, .slice ca cn ccp, .int .u32 sc, .int .u64 sk, .slice da dn dcp, .bool true] 68)) := (Below.refl _ _).alloc (Nat.le_refl _) _
  have h0 := encChunk_true cf ct cc co ca ccp cd (w.alloc (.cells #[.int .i64 5, .int .u32 fl, .int .u32 oc, .int .u32 ol, .bool og, .slice oa on ocp, .int .u16 qf, .int .u16 qt, .int .u64 qc, .int .u64 qo, .int .u64 ql, .slice qa qn qcp, .int .u32 ro, .int .u32 rk, .slice ra rn rcp, .int .u16 cf, .int .u16 ct, .int .u64 cc, .int .u64 co, .slice ca cn ccp, .int .u32 sc, .int .u64 sk, .slice da dn dcp, .bool true] 68)) hcf hct hcc hco (hcd.later hB) (by omega)
  rw [hcn] at h0
  have HE : Hid _ := h0
  clear h0
  have HB : Hid _ := hB
  clear hB
  go_enter Try.func20, Try.ntmps20
  go_wp2_with fail
  refine Calls.mono HE.out ?_
  rintro e w1 ⟨ao, cap, rfl, hr⟩
  have HR : Hid _ := Row.from HB.out hr
  clear hr HE HB
  go_wp2
  go_ret2
  exact ⟨_, _, rfl, HR.out⟩
set_option maxHeartbeats 4000000 in
theorem laid_5f (fl oc ol : Nat) (og : Bool) (oa : Option Addr) (on ocp qf qt qc qo ql : Nat) (qa : Option Addr) (qn qcp ro rk : Nat) (ra : Option Addr) (rn rcp cf ct cc co : Nat) (ca : Option Addr) (cn ccp sc sk : Nat) (da : Option Addr) (dn dcp : Nat) (w : World) (cd : List Nat) (hcn : cd.length = cn) (hcd : BRow w ca ccp cd) (hcf : cf < 65536) (hct : ct < 65536) (hcc : cc < 18446744073709551616) (hco : co < 18446744073709551616) (hl : cd.length ≤ 1048576) :
    Calls Try.prog 20 #[.agg #[.int .i64 5, .int .u32 fl, .int .u32 oc, .int .u32 ol, .bool og, .slice oa on ocp, .int .u16 qf, .int .u16 qt, .int .u64 qc, .int .u64 qo, .int .u64 ql, .slice qa qn qcp, .int .u32 ro, .int .u32 rk, .slice ra rn rcp, .int .u16 cf, .int .u16 ct, .int .u64 cc, .int .u64 co, .slice ca cn ccp, .int .u32 sc, .int .u64 sk, .slice da dn dcp, .bool false]] w fun e w' => LaidP w (cL cf ct cc cd) true e w' := by
  have hB : Below w.heap.size w (w.alloc (.cells #[.int .i64 5, .int .u32 fl, .int .u32 oc, .int .u32 ol, .bool og, .slice oa on ocp, .int .u16 qf, .int .u16 qt, .int .u64 qc, .int .u64 qo, .int .u64 ql, .slice qa qn qcp, .int .u32 ro, .int .u32 rk, .slice ra rn rcp, .int .u16 cf, .int .u16 ct, .int .u64 cc, .int .u64 co, .slice ca cn ccp, .int .u32 sc, .int .u64 sk, .slice da dn dcp, .bool false] 68)) := (Below.refl _ _).alloc (Nat.le_refl _) _
  have h0 := encChunk_false cf ct cc co ca ccp cd (w.alloc (.cells #[.int .i64 5, .int .u32 fl, .int .u32 oc, .int .u32 ol, .bool og, .slice oa on ocp, .int .u16 qf, .int .u16 qt, .int .u64 qc, .int .u64 qo, .int .u64 ql, .slice qa qn qcp, .int .u32 ro, .int .u32 rk, .slice ra rn rcp, .int .u16 cf, .int .u16 ct, .int .u64 cc, .int .u64 co, .slice ca cn ccp, .int .u32 sc, .int .u64 sk, .slice da dn dcp, .bool false] 68)) hcf hct hcc hco (hcd.later hB) (by omega)
  rw [hcn] at h0
  have HE : Hid _ := h0
  clear h0
  have HB : Hid _ := hB
  clear hB
  go_enter Try.func20, Try.ntmps20
  go_wp2_with fail
  refine Calls.mono HE.out ?_
  rintro e w1 ⟨ao, cap, rfl, hr⟩
  have HR : Hid _ := Row.from HB.out hr
  clear hr HE HB
  go_wp2
  go_ret2
  exact ⟨_, _, rfl, HR.out⟩
set_option maxHeartbeats 4000000 in
theorem laid_none (kd : Int) (fl oc ol : Nat) (og : Bool) (oa : Option Addr) (on ocp qf qt qc qo ql : Nat) (qa : Option Addr) (qn qcp ro rk : Nat) (ra : Option Addr) (rn rcp cf ct cc co : Nat) (ca : Option Addr) (cn ccp sc sk : Nat) (da : Option Addr) (dn dcp : Nat) (wd : Bool) (w : World) (h1 : (kd == 1) = false) (h2 : (kd == 2) = false) (h3 : (kd == 3) = false) (h4 : (kd == 4) = false) (h5 : (kd == 5) = false) (h6 : (kd == 6) = false) (h7 : (kd == 7) = false) :
    Calls Try.prog 20 #[.agg #[.int .i64 kd, .int .u32 fl, .int .u32 oc, .int .u32 ol, .bool og, .slice oa on ocp, .int .u16 qf, .int .u16 qt, .int .u64 qc, .int .u64 qo, .int .u64 ql, .slice qa qn qcp, .int .u32 ro, .int .u32 rk, .slice ra rn rcp, .int .u16 cf, .int .u16 ct, .int .u64 cc, .int .u64 co, .slice ca cn ccp, .int .u32 sc, .int .u64 sk, .slice da dn dcp, .bool wd]] w fun e w' => LaidP w [] false e w' := by
  go_enter Try.func20, Try.ntmps20
  go_wp2
  go_ret2
  exact ⟨_, _, rfl, World.ownsRow_nil _ _ _ _, by simp, (Below.refl _ _).alloc (Nat.le_refl _) _⟩
set_option maxHeartbeats 4000000 in
theorem laid_2 (fl oc ol : Nat) (og : Bool) (oa : Option Addr) (on ocp qf qt qc qo ql : Nat) (qa : Option Addr) (qn qcp ro rk : Nat) (ra : Option Addr) (rn rcp cf ct cc co : Nat) (ca : Option Addr) (cn ccp sc sk : Nat) (da : Option Addr) (dn dcp : Nat) (wd : Bool) (w : World) (od : List Nat) (hon : od.length = on) (hod : BRow w oa ocp od) (hoc : oc < 4294967296) (hl : od.length ≤ 1048576) :
    Calls Try.prog 20 #[.agg #[.int .i64 2, .int .u32 fl, .int .u32 oc, .int .u32 ol, .bool og, .slice oa on ocp, .int .u16 qf, .int .u16 qt, .int .u64 qc, .int .u64 qo, .int .u64 ql, .slice qa qn qcp, .int .u32 ro, .int .u32 rk, .slice ra rn rcp, .int .u16 cf, .int .u16 ct, .int .u64 cc, .int .u64 co, .slice ca cn ccp, .int .u32 sc, .int .u64 sk, .slice da dn dcp, .bool wd]] w fun e w' => LaidP w (oL oc od) true e w' := by
  have HE : Hid (∀ W : World, Below w.heap.size w W → Calls Try.prog 22 #[.agg #[.int .u32 oc, .int .u32 on, .bool false, .slice oa on ocp]] W fun e w' => ∃ ao cap, e = .returned (.tuple #[.slice ao (oL oc od).length cap, .int .i64 0]) ∧ Row W w' ao cap (oL oc od)) := fun W hb => by
    have h0 := encOption oc oa ocp od W hoc (hod.later hb) (by omega) (by omega)
    rw [hon] at h0
    exact h0
  have hwr : IntKind.u32.wrap (on : Int) = (on : Int) := by simp [IntKind.wrap, IntKind.bits, IntKind.signed]; omega
  go_enter Try.func20, Try.ntmps20
  go_wp2_with fail
  refine Calls.mono (HE.out _ (((Below.refl _ _).alloc (Nat.le_refl _) _).alloc (by simp) _)) ?_
  rintro e w1 ⟨ao, cap, rfl, hr⟩
  have HR : Hid _ := Row.from (((Below.refl _ _).alloc (Nat.le_refl _) _).alloc (by simp) _) hr
  clear hr HE
  go_wp2
  go_ret2
  exact ⟨_, _, rfl, HR.out⟩
end Go.Proofs.Ytckfmpoddmccfaa

namespace Go.Proofs.Ytckfmpoddmccfaa
open Go.RowKit
set_option linter.unusedVariables false
set_option linter.unusedSimpArgs false
set_option maxRecDepth 100000
theorem BRow.none (w : World) : BRow w none 0 [] := ⟨by simp, by simp, fun _ => ⟨rfl, rfl⟩, fun h => absurd rfl h⟩
/-- what a request has behind it, as it is asked -/
def askD (m : MsF) (qd : List Nat) : List Nat := if payB m.qf m.qt m.wd = true then qd else []
theorem ask_fit (m : MsF) (qd : List Nat) (hqn : qd.length = m.qn) (hl : qd.length ≤ 1048576) (hql : m.ql < 18446744073709551616) : fitB m.qf m.qt (askN m) (askD m qd).length m.wd = true ∧ askN m < 18446744073709551616 ∧ (askD m qd).length ≤ 1048576 := by
  unfold fitB askN askD
  by_cases e : payB m.qf m.qt m.wd = true
  · simp only [if_pos e]
    refine ⟨?_, by omega, hl⟩
    rcases m.wd with _ | _ <;> simp [hqn] <;> omega
  · simp only [if_neg e]
    have e' : payB m.qf m.qt m.wd = false := by simpa using e
    refine ⟨?_, by split <;> omega, by simp⟩
    rcases m.wd with _ | _
    · simp; omega
    · simp
theorem encReqA (f t c o n : Nat) (S : Value) (d : List Nat) (ext : Bool) (ao : Option Addr) (cap : Nat) (w : World) (hS : S = .slice ao d.length cap) (hf : f < 65536) (ht : t < 65536) (hc : c < 18446744073709551616) (ho : o < 18446744073709551616) (hn64 : n < 18446744073709551616) (hd : BRow w ao cap d) (hn : d.length ≤ 1048576) (hfit : fitB f t n d.length ext = true) :
    Calls Try.prog 51 #[.agg #[.int .u16 (f : Int), .int .u16 (t : Int), .int .u64 (c : Int), .int .u64 (o : Int), .int .u64 (n : Int), S], .bool ext] w fun e w' => ∃ ao cap, e = .returned (.tuple #[.slice ao (qL f t c o n d ext).length cap, .int .i64 0]) ∧ Row w w' ao cap (qL f t c o n d ext) := by
  subst hS
  cases ext
  · exact encRequest_false f t c o n ao cap d w hf ht hc ho hn64 hd (by omega) hfit
  · exact encRequest_true f t c o n ao cap d w hf ht hc ho hn64 hd (by omega) hfit
theorem box23 (w : World) (fl oc ol : Nat) (og : Bool) (oa : Option Addr) (on ocp qf qt qc qo ql : Nat) (qa : Option Addr) (qn qcp ro rk : Nat) (ra : Option Addr) (rn rcp cf ct cc co : Nat) (ca : Option Addr) (cn ccp sc sk : Nat) (da : Option Addr) (dn dcp : Nat) (wd : Bool) : (w.alloc (.cells #[.int .i64 3, .int .u32 fl, .int .u32 oc, .int .u32 ol, .bool og, .slice oa on ocp, .int .u16 qf, .int .u16 qt, .int .u64 qc, .int .u64 qo, .int .u64 ql, .slice qa qn qcp, .int .u32 ro, .int .u32 rk, .slice ra rn rcp, .int .u16 cf, .int .u16 ct, .int .u64 cc, .int .u64 co, .slice ca cn ccp, .int .u32 sc, .int .u64 sk, .slice da dn dcp, .bool wd] 68)).cell? ⟨w.heap.size, 23, none⟩ = some (.bool wd) := by rw [blk_at (heap_new w _)]; rfl
theorem range68 {W : World} {b : Nat} {cs : Array Value} {t : TypeId} (h : W.heap[b]? = some (.cells cs t (0, 0))) : W.rangeAt b 0 cs.toList := fun j v hj => by
  rw [Nat.zero_add, blk_at h]
  simpa using hj
theorem wpList_load68 {w : World} {ops : Array Oper} {rest : List Oper} {o : Oper} {a : Act} {Q : Exit → Act → World → Prop} (hgd : o.guard = none) (x : Operand) (ho : o.op = .load 68 x) (b off : Nat) (hx : a.eval x = .pointer (some ⟨b, off, none⟩)) (cs : Array Value) (hc : w.rangeAt b off cs.toList) (hs : cs.size = 24)
    (h : wpList Try.prog ops Q rest (a.put o.dst (.agg cs)) w) : wpList Try.prog ops Q (o :: rest) a w :=
  wpList_plain hgd fun K hK => wp_load_mid (P := Try.prog) 68 x ho b off hx cs.toList _ hc Try.underlying68 rfl (by rw [Array.length_toList, hs]; kernel_rfl) (by rw [Array.toArray_toList]; exact hK _ _ h)
set_option maxHeartbeats 4000000 in
theorem laid_3w (fl oc ol : Nat) (og : Bool) (oa : Option Addr) (on ocp qf qt qc qo ql : Nat) (qa : Option Addr) (qn qcp ro rk : Nat) (ra : Option Addr) (rn rcp cf ct cc co : Nat) (ca : Option Addr) (cn ccp sc sk : Nat) (da : Option Addr) (dn dcp : Nat) (wd : Bool) (w : World) (aN aL : Nat) (sa : Option Addr) (scap : Nat) (Bq : List Nat)
    (HA : Hid (∀ W : World, Calls Try.prog 50 #[.agg #[.int .i64 3, .int .u32 fl, .int .u32 oc, .int .u32 ol, .bool og, .slice oa on ocp, .int .u16 qf, .int .u16 qt, .int .u64 qc, .int .u64 qo, .int .u64 ql, .slice qa qn qcp, .int .u32 ro, .int .u32 rk, .slice ra rn rcp, .int .u16 cf, .int .u16 ct, .int .u64 cc, .int .u64 co, .slice ca cn ccp, .int .u32 sc, .int .u64 sk, .slice da dn dcp, .bool wd]] W fun e w' => e = .returned (.agg #[.int .u16 qf, .int .u16 qt, .int .u64 qc, .int .u64 qo, .int .u64 (aN : Int), .slice sa aL scap]) ∧ Below W.heap.size W w'))
    (HE : Hid (∀ W : World, Below w.heap.size w W → Calls Try.prog 51 #[.agg #[.int .u16 qf, .int .u16 qt, .int .u64 qc, .int .u64 qo, .int .u64 (aN : Int), .slice sa aL scap], .bool wd] W fun e w' => ∃ ao cap, e = .returned (.tuple #[.slice ao Bq.length cap, .int .i64 0]) ∧ Row W w' ao cap Bq)) :
    Calls Try.prog 20 #[.agg #[.int .i64 3, .int .u32 fl, .int .u32 oc, .int .u32 ol, .bool og, .slice oa on ocp, .int .u16 qf, .int .u16 qt, .int .u64 qc, .int .u64 qo, .int .u64 ql, .slice qa qn qcp, .int .u32 ro, .int .u32 rk, .slice ra rn rcp, .int .u16 cf, .int .u16 ct, .int .u64 cc, .int .u64 co, .slice ca cn ccp, .int .u32 sc, .int .u64 sk, .slice da dn dcp, .bool wd]] w fun e w' => LaidP w Bq true e w' := by
  go_enter Try.func20, Try.ntmps20
  go_upto_region 11 with fail
  have hb0 : Below w.heap.size w (w.alloc (.cells #[.int .i64 3, .int .u32 fl, .int .u32 oc, .int .u32 ol, .bool og, .slice oa on ocp, .int .u16 qf, .int .u16 qt, .int .u64 qc, .int .u64 qo, .int .u64 ql, .slice qa qn qcp, .int .u32 ro, .int .u32 rk, .slice ra rn rcp, .int .u16 cf, .int .u16 ct, .int .u64 cc, .int .u64 co, .slice ca cn ccp, .int .u32 sc, .int .u64 sk, .slice da dn dcp, .bool wd] 68)) := (Below.refl _ _).alloc (Nat.le_refl _) _
  have hbx : (w.alloc (.cells #[.int .i64 3, .int .u32 fl, .int .u32 oc, .int .u32 ol, .bool og, .slice oa on ocp, .int .u16 qf, .int .u16 qt, .int .u64 qc, .int .u64 qo, .int .u64 ql, .slice qa qn qcp, .int .u32 ro, .int .u32 rk, .slice ra rn rcp, .int .u16 cf, .int .u16 ct, .int .u64 cc, .int .u64 co, .slice ca cn ccp, .int .u32 sc, .int .u64 sk, .slice da dn dcp, .bool wd] 68)).heap[w.heap.size]? = some (.cells #[.int .i64 3, .int .u32 fl, .int .u32 oc, .int .u32 ol, .bool og, .slice oa on ocp, .int .u16 qf, .int .u16 qt, .int .u64 qc, .int .u64 qo, .int .u64 ql, .slice qa qn qcp, .int .u32 ro, .int .u32 rk, .slice ra rn rcp, .int .u16 cf, .int .u16 ct, .int .u64 cc, .int .u64 co, .slice ca cn ccp, .int .u32 sc, .int .u64 sk, .slice da dn dcp, .bool wd] 68 (0, 0)) := heap_new w _
  generalize (w.alloc (.cells #[.int .i64 3, .int .u32 fl, .int .u32 oc, .int .u32 ol, .bool og, .slice oa on ocp, .int .u16 qf, .int .u16 qt, .int .u64 qc, .int .u64 qo, .int .u64 ql, .slice qa qn qcp, .int .u32 ro, .int .u32 rk, .slice ra rn rcp, .int .u16 cf, .int .u16 ct, .int .u64 cc, .int .u64 co, .slice ca cn ccp, .int .u32 sc, .int .u64 sk, .slice da dn dcp, .bool wd] 68)) = W0 at *
  have HRg : Hid (W0.rangeAt w.heap.size 0 (#[.int .i64 3, .int .u32 fl, .int .u32 oc, .int .u32 ol, .bool og, .slice oa on ocp, .int .u16 qf, .int .u16 qt, .int .u64 qc, .int .u64 qo, .int .u64 ql, .slice qa qn qcp, .int .u32 ro, .int .u32 rk, .slice ra rn rcp, .int .u16 cf, .int .u16 ct, .int .u64 cc, .int .u64 co, .slice ca cn ccp, .int .u32 sc, .int .u64 sk, .slice da dn dcp, .bool wd] : Array Value).toList) := range68 hbx
  have hx0 : W0.cell? ⟨w.heap.size, 23, none⟩ = some (.bool wd) := (blk_at hbx 23).trans rfl
  clear hbx
  go_wp2_with (refine wpList_load68 rfl _ rfl w.heap.size 0 rfl #[.int .i64 3, .int .u32 fl, .int .u32 oc, .int .u32 ol, .bool og, .slice oa on ocp, .int .u16 qf, .int .u16 qt, .int .u64 qc, .int .u64 qo, .int .u64 ql, .slice qa qn qcp, .int .u32 ro, .int .u32 rk, .slice ra rn rcp, .int .u16 cf, .int .u16 ct, .int .u64 cc, .int .u64 co, .slice ca cn ccp, .int .u32 sc, .int .u64 sk, .slice da dn dcp, .bool wd] HRg.out rfl ?_)
  clear HRg
  refine Calls.mono (HA.out _) ?_
  rintro e w1 ⟨rfl, hb⟩
  have hB1 : Below w.heap.size w w1 := hb0.trans (hb.mono hb0.size)
  have hx1 := cell_later hb hx0
  have H2 : Hid (Below w.heap.size w (w1.alloc (.cells #[.int .u16 (qf : Int), .int .u16 (qt : Int), .int .u64 (qc : Int), .int .u64 (qo : Int), .int .u64 (aN : Int), .slice sa aL scap] 60)) ∧ (w1.alloc (.cells #[.int .u16 (qf : Int), .int .u16 (qt : Int), .int .u64 (qc : Int), .int .u64 (qo : Int), .int .u64 (aN : Int), .slice sa aL scap] 60)).heap[w1.heap.size]? = some (.cells #[.int .u16 (qf : Int), .int .u16 (qt : Int), .int .u64 (qc : Int), .int .u64 (qo : Int), .int .u64 (aN : Int), .slice sa aL scap] 60 (0, 0)) ∧ (w1.alloc (.cells #[.int .u16 (qf : Int), .int .u16 (qt : Int), .int .u64 (qc : Int), .int .u64 (qo : Int), .int .u64 (aN : Int), .slice sa aL scap] 60)).cell? ⟨w.heap.size, 23, none⟩ = some (.bool wd)) := ⟨hB1.alloc hB1.size _, heap_new w1 _, cell_later ((Below.refl _ _).alloc (Nat.le_refl _) _) hx1⟩
  clear hb HA hx0 hb0 hB1 hx1
  as_aux_lemma =>
    go_upto_region 12 with fail
    generalize (w1.alloc (.cells #[.int .u16 (qf : Int), .int .u16 (qt : Int), .int .u64 (qc : Int), .int .u64 (qo : Int), .int .u64 (aN : Int), .slice sa aL scap] 60)) = w2 at *
    have p0 : w2.cell? ⟨w1.heap.size, 0, none⟩ = some (.int .u16 (qf : Int)) := (blk_at H2.out.2.1 0).trans rfl
    have p1 : w2.cell? ⟨w1.heap.size, 1, none⟩ = some (.int .u16 (qt : Int)) := (blk_at H2.out.2.1 1).trans rfl
    have p2 : w2.cell? ⟨w1.heap.size, 2, none⟩ = some (.int .u64 (qc : Int)) := (blk_at H2.out.2.1 2).trans rfl
    have p3 : w2.cell? ⟨w1.heap.size, 3, none⟩ = some (.int .u64 (qo : Int)) := (blk_at H2.out.2.1 3).trans rfl
    have p4 : w2.cell? ⟨w1.heap.size, 4, none⟩ = some (.int .u64 (aN : Int)) := (blk_at H2.out.2.1 4).trans rfl
    have p5 : w2.cell? ⟨w1.heap.size, 5, none⟩ = some (.slice sa aL scap) := (blk_at H2.out.2.1 5).trans rfl
    have m23 := H2.out.2.2
    as_aux_lemma =>
      go_wp2_with fail
      refine Calls.mono (HE.out _ H2.out.1) ?_
      rintro e w3 ⟨ao, cap, rfl, hr⟩
      have HR : Hid (Row w w3 ao cap Bq) := Row.from H2.out.1 hr
      clear hr HE H2 p0 p1 p2 p3 p4 p5 m23
      as_aux_lemma =>
        go_wp2
        go_ret2
        exact ⟨_, _, rfl, HR.out⟩
theorem ask_row (m : MsF) (qd : List Nat) (w : World) (hqn : qd.length = m.qn) (hqd : BRow w m.qa m.qcp qd) : ∃ ao cap, askS m = .slice ao (askD m qd).length cap ∧ BRow w ao cap (askD m qd) := by
  unfold askS askD
  by_cases e : payB m.qf m.qt m.wd = true
  · exact ⟨m.qa, m.qcp, by rw [if_pos e, if_pos e, hqn], by rw [if_pos e]; exact hqd⟩
  · exact ⟨none, 0, by rw [if_neg e, if_neg e]; rfl, by rw [if_neg e]; exact BRow.none w⟩
theorem laid_3m (m : MsF) (w : World) (qd : List Nat) (hkd : m.kd = 3) (hqn : qd.length = m.qn) (hqd : BRow w m.qa m.qcp qd) (hqf : m.qf < 65536) (hqt : m.qt < 65536) (hqc : m.qc < 18446744073709551616) (hqo : m.qo < 18446744073709551616) (hql : m.ql < 18446744073709551616) (hl : qd.length ≤ 1048576) :
    Calls Try.prog 20 #[.agg m.cells] w fun e w' => LaidP w (qL m.qf m.qt m.qc m.qo (askN m) (askD m qd) m.wd) true e w' := by
  obtain ⟨h1, h2, h3⟩ := ask_fit m qd hqn hl hql
  obtain ⟨sa, scap, hSe, hSb⟩ := ask_row m qd w hqn hqd
  have HA : Hid (∀ W : World, Calls Try.prog 50 #[.agg m.cells] W fun e w' => e = .returned (.agg #[.int .u16 m.qf, .int .u16 m.qt, .int .u64 m.qc, .int .u64 m.qo, .int .u64 (askN m), .slice sa (askD m qd).length scap]) ∧ Below W.heap.size W w') := fun W => by
    have h9 := askedA m W (by omega) hql
    rw [hSe] at h9
    exact h9
  have HE : Hid (∀ W : World, Below w.heap.size w W → Calls Try.prog 51 #[.agg #[.int .u16 m.qf, .int .u16 m.qt, .int .u64 m.qc, .int .u64 m.qo, .int .u64 ((askN m : Nat) : Int), .slice sa (askD m qd).length scap], .bool m.wd] W fun e w' => ∃ ao cap, e = .returned (.tuple #[.slice ao (qL m.qf m.qt m.qc m.qo (askN m) (askD m qd) m.wd).length cap, .int .i64 0]) ∧ Row W w' ao cap (qL m.qf m.qt m.qc m.qo (askN m) (askD m qd) m.wd)) := fun W hb => encReqA m.qf m.qt m.qc m.qo (askN m) _ (askD m qd) m.wd sa scap W rfl hqf hqt hqc hqo h2 (hSb.later hb) h3 h1
  generalize qL m.qf m.qt m.qc m.qo (askN m) (askD m qd) m.wd = Bq at *
  generalize askN m = aN at *
  generalize (askD m qd).length = aL at *
  clear h1 h2 h3 hSe hSb hqn hqd hl
  obtain ⟨kd, fl, oc, ol, og, oa, on, ocp, qf, qt, qc, qo, ql, qa, qn, qcp, ro, rk, ra, rn, rcp, cf, ct, cc, co, ca, cn, ccp, sc, sk, da, dn, dcp, wd⟩ := m
  simp only at hkd
  subst hkd
  exact laid_3w fl oc ol og oa on ocp qf qt qc qo ql qa qn qcp ro rk ra rn rcp cf ct cc co ca cn ccp sc sk da dn dcp wd w aN aL sa scap Bq HA HE
theorem step_append_none {P : Program} {ops : Array Oper} {o : Oper} {a : Act} {w : World} {K : Act → World → Prop} {Q : Exit → Act → World → Prop} {E : Prop}
    (hg : o.guard = none) (s x : Operand) (t : TypeId) (hop : o.op = Op.call { callee := Callee.builtin Builtin.append, args := #[s, x], argTypes := #[t, t] })
    (base : Nat) (e : TypeId) (i : TypeInfo) (size : Nat) (ht : P.underlying t = some (.slice e)) (hi : P.info? e = some i)
    (v : Value) (n : Nat) (xs : List Value) (hs : a.eval s = v) (hown : w.ownsRow base e size v n xs) (hx : a.eval x = .slice none 0 0)
    (hK : K (a.put o.dst v) w) : if Region.wanted o (yielded ops a.tmps) = true then Oper.wp P o a w K Q else E := by
  have hw : Region.wanted o (yielded ops a.tmps) = true := by simp [Region.wanted, hg]
  rw [if_pos hw]
  have hrun := run_append_owned_none (P := P) (w := w) base t o.type e i size ht hi v n xs hown
  unfold Oper.wp
  simp [execOp, hop, resolve, invoke, builtin, hs, hx, hrun, Result.andThen]
  exact hK
theorem ms_cells {W : World} {b : Nat} {a0 a1 a2 a3 a4 a5 a6 a7 a8 a9 a10 a11 a12 a13 a14 a15 a16 a17 a18 a19 a20 a21 a22 a23 : Value} {t : TypeId} (h : W.heap[b]? = some (.cells #[a0, a1, a2, a3, a4, a5, a6, a7, a8, a9, a10, a11, a12, a13, a14, a15, a16, a17, a18, a19, a20, a21, a22, a23] t (0, 0))) : W.cell? ⟨b, 20, none⟩ = some a20 ∧ W.cell? ⟨b, 21, none⟩ = some a21 ∧ W.cell? ⟨b, 22, none⟩ = some a22 := ⟨(blk_at h 20).trans rfl, (blk_at h 21).trans rfl, (blk_at h 22).trans rfl⟩
theorem box_grown {W W' : World} {B e n b t : Nat} {v : Value} {xs : List Value} {A : Array Value} (h : W.heap[b]? = some (.cells A t (0, 0))) (ho : W.ownsRow B e 1 v n xs) (hne : t ≠ e) (hg : W.grownBy W' v.ownBlock) : W'.heap[b]? = some (.cells A t (0, 0)) := by
  rw [hg.block _ (block_lt h) (fun hx => ?_)]
  · exact h
  · obtain ⟨cur, hc⟩ := owns_type ho _ hx.symm
    rw [h] at hc
    simp at hc
    exact hne hc.2
theorem row_grown {w W W' : World} {ao ao' : Option Addr} {cap cap' n m : Nat} {l d : List Nat} (h : Row w W ao cap l) (hd : ∀ x ∈ d, x < 256) (hln : (l ++ d).length = n + m) (ho : W.ownsRow w.heap.size 5 1 (.slice ao n cap) n (l.map bv)) (ho' : W'.ownsRow w.heap.size 5 1 (.slice ao' (n + m) cap') (n + m) (l.map bv ++ d.map bv)) (hg : W.grownBy W' (Value.slice ao n cap).ownBlock) : Row w W' ao' cap' (l ++ d) :=
  ⟨by rw [hln, List.map_append]; exact ho', fun x hx => by
    rcases List.mem_append.1 hx with h9 | h9
    · exact h.lt x h9
    · exact hd x h9, h.bel.grown hg h.bel.size (fun k hk => (owns_lt ho k hk).2)⟩
set_option maxHeartbeats 4000000 in
theorem laid_7s (fl oc ol : Nat) (og : Bool) (oa : Option Addr) (on ocp qf qt qc qo ql : Nat) (qa : Option Addr) (qn qcp ro rk : Nat) (ra : Option Addr) (rn rcp cf ct cc co : Nat) (ca : Option Addr) (cn ccp sc sk : Nat) (da : Addr) (dn dcp : Nat) (wd : Bool) (w : World) (dd : List Nat) (hdn : dd.length = dn) (hdd : BRow w (some da) dcp dd) (hsc : sc < 4294967296) (hsk : sk < 18446744073709551616) (hl : dd.length ≤ 1048576) :
    Calls Try.prog 20 #[.agg #[.int .i64 7, .int .u32 fl, .int .u32 oc, .int .u32 ol, .bool og, .slice oa on ocp, .int .u16 qf, .int .u16 qt, .int .u64 qc, .int .u64 qo, .int .u64 ql, .slice qa qn qcp, .int .u32 ro, .int .u32 rk, .slice ra rn rcp, .int .u16 cf, .int .u16 ct, .int .u64 cc, .int .u64 co, .slice ca cn ccp, .int .u32 sc, .int .u64 sk, .slice (some da) dn dcp, .bool wd]] w fun e w' => LaidP w (sL sc sk ++ dd) true e w' := by
  obtain ⟨i0, hi, hz0, hz1, hz2⟩ := info_parts Try.info5
  have HE : Hid (∀ W : World, Calls Try.prog 55 #[.agg #[.int .u32 sc, .int .u64 sk]] W fun e w' => ∃ ao cap, e = .returned (.slice ao 16 cap) ∧ Row W w' ao cap (sL sc sk)) := fun W => by
    have h0 := encSimple sc sk W hsc hsk
    have h16 : (sL sc sk).length = 16 := by simp [sL, bigTo_length]
    rw [h16] at h0
    exact h0
  have HDn : Hid (dd.length = dn) := hdn
  have HDd : Hid (BRow w (some da) dcp dd) := hdd
  have hdl : dn ≤ 1048576 := by omega
  have hln : (sL sc sk ++ dd).length = 16 + dn := by rw [List.length_append, hdn]; simp [sL, bigTo_length]
  have HLn : Hid ((sL sc sk ++ dd).length = 16 + dn) := hln
  have h16 : (sL sc sk).length = 16 := by simp [sL, bigTo_length]
  have H16 : Hid ((sL sc sk).length = 16) := h16
  clear hdn hdd hln h16
  go_enter Try.func20, Try.ntmps20
  go_wp2
  have hb0 : Below w.heap.size w (w.alloc (.cells #[.int .i64 7, .int .u32 fl, .int .u32 oc, .int .u32 ol, .bool og, .slice oa on ocp, .int .u16 qf, .int .u16 qt, .int .u64 qc, .int .u64 qo, .int .u64 ql, .slice qa qn qcp, .int .u32 ro, .int .u32 rk, .slice ra rn rcp, .int .u16 cf, .int .u16 ct, .int .u64 cc, .int .u64 co, .slice ca cn ccp, .int .u32 sc, .int .u64 sk, .slice (some da) dn dcp, .bool wd] 68)) := (Below.refl _ _).alloc (Nat.le_refl _) _
  have hx0 : (w.alloc (.cells #[.int .i64 7, .int .u32 fl, .int .u32 oc, .int .u32 ol, .bool og, .slice oa on ocp, .int .u16 qf, .int .u16 qt, .int .u64 qc, .int .u64 qo, .int .u64 ql, .slice qa qn qcp, .int .u32 ro, .int .u32 rk, .slice ra rn rcp, .int .u16 cf, .int .u16 ct, .int .u64 cc, .int .u64 co, .slice ca cn ccp, .int .u32 sc, .int .u64 sk, .slice (some da) dn dcp, .bool wd] 68)).heap[w.heap.size]? = some (.cells #[.int .i64 7, .int .u32 fl, .int .u32 oc, .int .u32 ol, .bool og, .slice oa on ocp, .int .u16 qf, .int .u16 qt, .int .u64 qc, .int .u64 qo, .int .u64 ql, .slice qa qn qcp, .int .u32 ro, .int .u32 rk, .slice ra rn rcp, .int .u16 cf, .int .u16 ct, .int .u64 cc, .int .u64 co, .slice ca cn ccp, .int .u32 sc, .int .u64 sk, .slice (some da) dn dcp, .bool wd] 68 (0, 0)) := heap_new w _
  generalize (w.alloc (.cells #[.int .i64 7, .int .u32 fl, .int .u32 oc, .int .u32 ol, .bool og, .slice oa on ocp, .int .u16 qf, .int .u16 qt, .int .u64 qc, .int .u64 qo, .int .u64 ql, .slice qa qn qcp, .int .u32 ro, .int .u32 rk, .slice ra rn rcp, .int .u16 cf, .int .u16 ct, .int .u64 cc, .int .u64 co, .slice ca cn ccp, .int .u32 sc, .int .u64 sk, .slice (some da) dn dcp, .bool wd] 68)) = W0 at *
  have hs0 : W0.drew.cell? ⟨w.heap.size, 20, none⟩ = some (.int .u32 (sc : Int)) ∧ W0.drew.cell? ⟨w.heap.size, 21, none⟩ = some (.int .u64 (sk : Int)) ∧ W0.drew.cell? ⟨w.heap.size, 22, none⟩ = some (.slice (some da) dn dcp) := ⟨(blk_at hx0 20).trans rfl, (blk_at hx0 21).trans rfl, (blk_at hx0 22).trans rfl⟩
  have H0 : Hid (Below w.heap.size w W0.drew ∧ W0.drew.heap[w.heap.size]? = some (.cells #[.int .i64 7, .int .u32 fl, .int .u32 oc, .int .u32 ol, .bool og, .slice oa on ocp, .int .u16 qf, .int .u16 qt, .int .u64 qc, .int .u64 qo, .int .u64 ql, .slice qa qn qcp, .int .u32 ro, .int .u32 rk, .slice ra rn rcp, .int .u16 cf, .int .u16 ct, .int .u64 cc, .int .u64 co, .slice ca cn ccp, .int .u32 sc, .int .u64 sk, .slice (some da) dn dcp, .bool wd] 68 (0, 0))) := ⟨hb0.trans ⟨rfl, rfl, rfl, Nat.le_refl _, fun _ _ => rfl⟩, hx0⟩
  clear hb0 hx0
  go_region_held3 (fun w' => w'.cell? ⟨w.heap.size, 20, none⟩ = some (.int .u32 (sc : Int)) ∧ w'.cell? ⟨w.heap.size, 21, none⟩ = some (.int .u64 (sk : Int)) ∧ w'.cell? ⟨w.heap.size, 22, none⟩ = some (.slice (some da) dn dcp)) (first | exact hs0 | exact hs1 | exact hs2 | go_keep) (first
    | (go_at_call 55; refine (HE.out _).mono ?_; rintro e W1 ⟨ao, cap, rfl, hr⟩; have H1 : Hid (Row w W1 ao cap (sL sc sk) ∧ BRow W1 (some da) dcp dd ∧ W1.ownsRow w.heap.size 5 1 (.slice ao 16 cap) 16 ((sL sc sk).map bv) ∧ W1.heap[w.heap.size]? = some (.cells #[.int .i64 7, .int .u32 fl, .int .u32 oc, .int .u32 ol, .bool og, .slice oa on ocp, .int .u16 qf, .int .u16 qt, .int .u64 qc, .int .u64 qo, .int .u64 ql, .slice qa qn qcp, .int .u32 ro, .int .u32 rk, .slice ra rn rcp, .int .u16 cf, .int .u16 ct, .int .u64 cc, .int .u64 co, .slice ca cn ccp, .int .u32 sc, .int .u64 sk, .slice (some da) dn dcp, .bool wd] 68 (0, 0))) := ⟨Row.from H0.out.1 hr, HDd.out.later (Row.from H0.out.1 hr).bel, by have h9 := (Row.from H0.out.1 hr).own; rw [H16.out] at h9; exact h9, (hr.bel.block _ (block_lt H0.out.2)).trans H0.out.2⟩; have hs1 := ms_cells H1.out.2.2.2; clear hr)
    | (refine step_append_two (by rfl) _ _ 22 (by rfl) w.heap.size 5 i0 (.int .u8 0) 1 Try.underlying22 hi hz0 hz1 hz2 rfl (.slice ao 16 cap) 16 ((sL sc sk).map bv) (by rfl) H1.out.2.2.1 da dn dcp (dd.map bv) (by rfl) (by rw [List.length_map]; exact HDn.out) (H1.out.2.1.news da rfl) (bv_one dd) (by unfold maxLen; omega) (by omega) H1.out.1.bel.size ?_; intro ao6 cap6 W6 ho6 hg6 hf6; have H6 : Hid (Row w W6 ao6 cap6 (sL sc sk ++ dd)) := row_grown H1.out.1 (fun x hx => HDd.out.lt x hx) HLn.out H1.out.2.2.1 ho6 hg6; have hs2 := ms_cells (box_grown H1.out.2.2.2 H1.out.2.2.1 (by decide) hg6); clear ho6 hg6 hf6))
  all_goals
    go_wp2
    go_ret2
    exact ⟨ao6, cap6, congrArg (fun n => Ending.returned (.tuple #[.slice ao6 n cap6, .bool true])) HLn.out.symm, H6.out⟩
set_option maxHeartbeats 4000000 in
theorem laid_7n (fl oc ol : Nat) (og : Bool) (oa : Option Addr) (on ocp qf qt qc qo ql : Nat) (qa : Option Addr) (qn qcp ro rk : Nat) (ra : Option Addr) (rn rcp cf ct cc co : Nat) (ca : Option Addr) (cn ccp sc sk : Nat) (wd : Bool) (w : World) (hsc : sc < 4294967296) (hsk : sk < 18446744073709551616) :
    Calls Try.prog 20 #[.agg #[.int .i64 7, .int .u32 fl, .int .u32 oc, .int .u32 ol, .bool og, .slice oa on ocp, .int .u16 qf, .int .u16 qt, .int .u64 qc, .int .u64 qo, .int .u64 ql, .slice qa qn qcp, .int .u32 ro, .int .u32 rk, .slice ra rn rcp, .int .u16 cf, .int .u16 ct, .int .u64 cc, .int .u64 co, .slice ca cn ccp, .int .u32 sc, .int .u64 sk, .slice none 0 0, .bool wd]] w fun e w' => LaidP w (sL sc sk ++ []) true e w' := by
  have hdn : ([] : List Nat).length = 0 := rfl
  have hdd : BRow w none 0 [] := BRow.none w
  have hl : ([] : List Nat).length ≤ 1048576 := by simp
  obtain ⟨i0, hi, hz0, hz1, hz2⟩ := info_parts Try.info5
  have HE : Hid (∀ W : World, Calls Try.prog 55 #[.agg #[.int .u32 sc, .int .u64 sk]] W fun e w' => ∃ ao cap, e = .returned (.slice ao 16 cap) ∧ Row W w' ao cap (sL sc sk)) := fun W => by
    have h0 := encSimple sc sk W hsc hsk
    have h16 : (sL sc sk).length = 16 := by simp [sL, bigTo_length]
    rw [h16] at h0
    exact h0
  have HDn : Hid ( ([] : List Nat).length = 0) := hdn
  have HDd : Hid (BRow w none 0  ([] : List Nat)) := hdd
  have hln : (sL sc sk ++  ([] : List Nat)).length = 16 + 0 := by rw [List.length_append, hdn]; simp [sL, bigTo_length]
  have HLn : Hid ((sL sc sk ++  ([] : List Nat)).length = 16 + 0) := hln
  have h16 : (sL sc sk).length = 16 := by simp [sL, bigTo_length]
  have H16 : Hid ((sL sc sk).length = 16) := h16
  clear hdn hdd hln h16
  go_enter Try.func20, Try.ntmps20
  go_wp2
  have hb0 : Below w.heap.size w (w.alloc (.cells #[.int .i64 7, .int .u32 fl, .int .u32 oc, .int .u32 ol, .bool og, .slice oa on ocp, .int .u16 qf, .int .u16 qt, .int .u64 qc, .int .u64 qo, .int .u64 ql, .slice qa qn qcp, .int .u32 ro, .int .u32 rk, .slice ra rn rcp, .int .u16 cf, .int .u16 ct, .int .u64 cc, .int .u64 co, .slice ca cn ccp, .int .u32 sc, .int .u64 sk, .slice none 0 0, .bool wd] 68)) := (Below.refl _ _).alloc (Nat.le_refl _) _
  have hx0 : (w.alloc (.cells #[.int .i64 7, .int .u32 fl, .int .u32 oc, .int .u32 ol, .bool og, .slice oa on ocp, .int .u16 qf, .int .u16 qt, .int .u64 qc, .int .u64 qo, .int .u64 ql, .slice qa qn qcp, .int .u32 ro, .int .u32 rk, .slice ra rn rcp, .int .u16 cf, .int .u16 ct, .int .u64 cc, .int .u64 co, .slice ca cn ccp, .int .u32 sc, .int .u64 sk, .slice none 0 0, .bool wd] 68)).heap[w.heap.size]? = some (.cells #[.int .i64 7, .int .u32 fl, .int .u32 oc, .int .u32 ol, .bool og, .slice oa on ocp, .int .u16 qf, .int .u16 qt, .int .u64 qc, .int .u64 qo, .int .u64 ql, .slice qa qn qcp, .int .u32 ro, .int .u32 rk, .slice ra rn rcp, .int .u16 cf, .int .u16 ct, .int .u64 cc, .int .u64 co, .slice ca cn ccp, .int .u32 sc, .int .u64 sk, .slice none 0 0, .bool wd] 68 (0, 0)) := heap_new w _
  generalize (w.alloc (.cells #[.int .i64 7, .int .u32 fl, .int .u32 oc, .int .u32 ol, .bool og, .slice oa on ocp, .int .u16 qf, .int .u16 qt, .int .u64 qc, .int .u64 qo, .int .u64 ql, .slice qa qn qcp, .int .u32 ro, .int .u32 rk, .slice ra rn rcp, .int .u16 cf, .int .u16 ct, .int .u64 cc, .int .u64 co, .slice ca cn ccp, .int .u32 sc, .int .u64 sk, .slice none 0 0, .bool wd] 68)) = W0 at *
  have hs0 : W0.drew.cell? ⟨w.heap.size, 20, none⟩ = some (.int .u32 (sc : Int)) ∧ W0.drew.cell? ⟨w.heap.size, 21, none⟩ = some (.int .u64 (sk : Int)) ∧ W0.drew.cell? ⟨w.heap.size, 22, none⟩ = some (.slice none 0 0) := ⟨(blk_at hx0 20).trans rfl, (blk_at hx0 21).trans rfl, (blk_at hx0 22).trans rfl⟩
  have H0 : Hid (Below w.heap.size w W0.drew ∧ W0.drew.heap[w.heap.size]? = some (.cells #[.int .i64 7, .int .u32 fl, .int .u32 oc, .int .u32 ol, .bool og, .slice oa on ocp, .int .u16 qf, .int .u16 qt, .int .u64 qc, .int .u64 qo, .int .u64 ql, .slice qa qn qcp, .int .u32 ro, .int .u32 rk, .slice ra rn rcp, .int .u16 cf, .int .u16 ct, .int .u64 cc, .int .u64 co, .slice ca cn ccp, .int .u32 sc, .int .u64 sk, .slice none 0 0, .bool wd] 68 (0, 0))) := ⟨hb0.trans ⟨rfl, rfl, rfl, Nat.le_refl _, fun _ _ => rfl⟩, hx0⟩
  clear hb0 hx0
  go_region_held3 (fun w' => w'.cell? ⟨w.heap.size, 20, none⟩ = some (.int .u32 (sc : Int)) ∧ w'.cell? ⟨w.heap.size, 21, none⟩ = some (.int .u64 (sk : Int)) ∧ w'.cell? ⟨w.heap.size, 22, none⟩ = some (.slice none 0 0)) (first | exact hs0 | exact hs1 | exact hs2 | go_keep) (first
    | (go_at_call 55; refine (HE.out _).mono ?_; rintro e W1 ⟨ao, cap, rfl, hr⟩; have H1 : Hid (Row w W1 ao cap (sL sc sk) ∧ BRow W1 none 0  ([] : List Nat) ∧ W1.ownsRow w.heap.size 5 1 (.slice ao 16 cap) 16 ((sL sc sk).map bv) ∧ W1.heap[w.heap.size]? = some (.cells #[.int .i64 7, .int .u32 fl, .int .u32 oc, .int .u32 ol, .bool og, .slice oa on ocp, .int .u16 qf, .int .u16 qt, .int .u64 qc, .int .u64 qo, .int .u64 ql, .slice qa qn qcp, .int .u32 ro, .int .u32 rk, .slice ra rn rcp, .int .u16 cf, .int .u16 ct, .int .u64 cc, .int .u64 co, .slice ca cn ccp, .int .u32 sc, .int .u64 sk, .slice none 0 0, .bool wd] 68 (0, 0))) := ⟨Row.from H0.out.1 hr, HDd.out.later (Row.from H0.out.1 hr).bel, by have h9 := (Row.from H0.out.1 hr).own; rw [H16.out] at h9; exact h9, (hr.bel.block _ (block_lt H0.out.2)).trans H0.out.2⟩; have hs1 := ms_cells H1.out.2.2.2; clear hr)
    | (refine step_append_none (by rfl) _ _ 22 (by rfl) w.heap.size 5 i0 1 Try.underlying22 hi (.slice ao 16 cap) 16 ((sL sc sk).map bv) (by rfl) H1.out.2.2.1 (by rfl) ?_; have H6 : Hid (Row w W1 ao cap (sL sc sk ++ [])) := (by rw [List.append_nil]; exact H1.out.1); have hs2 := hs1))
  all_goals
    go_wp2
    go_ret2
    exact ⟨ao, cap, congrArg (fun n => Ending.returned (.tuple #[.slice ao n cap, .bool true])) HLn.out.symm, H6.out⟩
theorem laid_7 (fl oc ol : Nat) (og : Bool) (oa : Option Addr) (on ocp qf qt qc qo ql : Nat) (qa : Option Addr) (qn qcp ro rk : Nat) (ra : Option Addr) (rn rcp cf ct cc co : Nat) (ca : Option Addr) (cn ccp sc sk : Nat) (da : Option Addr) (dn dcp : Nat) (wd : Bool) (w : World) (dd : List Nat) (hdn : dd.length = dn) (hdd : BRow w da dcp dd) (hsc : sc < 4294967296) (hsk : sk < 18446744073709551616) (hl : dd.length ≤ 1048576) :
    Calls Try.prog 20 #[.agg #[.int .i64 7, .int .u32 fl, .int .u32 oc, .int .u32 ol, .bool og, .slice oa on ocp, .int .u16 qf, .int .u16 qt, .int .u64 qc, .int .u64 qo, .int .u64 ql, .slice qa qn qcp, .int .u32 ro, .int .u32 rk, .slice ra rn rcp, .int .u16 cf, .int .u16 ct, .int .u64 cc, .int .u64 co, .slice ca cn ccp, .int .u32 sc, .int .u64 sk, .slice da dn dcp, .bool wd]] w fun e w' => LaidP w (sL sc sk ++ dd) true e w' := by
  rcases da with _ | da
  · obtain ⟨rfl, rfl⟩ := hdd.nil rfl
    subst hdn
    exact laid_7n _ _ _ _ _ _ _ _ _ _ _ _ _ _ _ _ _ _ _ _ _ _ _ _ _ _ _ _ _ _ w hsc hsk
  · exact laid_7s _ _ _ _ _ _ _ _ _ _ _ _ _ _ _ _ _ _ _ _ _ _ _ _ _ _ _ _ _ _ _ _ _ w dd hdn hdd hsc hsk hl
end Go.Proofs.Ytckfmpoddmccfaa

namespace Go.Proofs.Ytckfmpoddmccfaa
open Go.RowKit
set_option linter.unusedVariables false
set_option linter.unusedSimpArgs false
set_option maxRecDepth 100000
/-- a message with its rows of bytes -/
structure MsD where
  m : MsF
  od : List Nat
  qd : List Nat
  rd : List Nat
  cd : List Nat
  dd : List Nat
/-- its numbers are within their types -/
structure MsN (x : MsD) : Prop where
  fl : x.m.fl < 4294967296
  oc : x.m.oc < 4294967296
  qf : x.m.qf < 65536
  qt : x.m.qt < 65536
  qc : x.m.qc < 18446744073709551616
  qo : x.m.qo < 18446744073709551616
  ql : x.m.ql < 18446744073709551616
  ro : x.m.ro < 4294967296
  rk : x.m.rk < 4294967296
  cf : x.m.cf < 65536
  ct : x.m.ct < 65536
  cc : x.m.cc < 18446744073709551616
  co : x.m.co < 18446744073709551616
  sc : x.m.sc < 4294967296
  sk : x.m.sk < 18446744073709551616
  od : x.od.length = x.m.on
  qd : x.qd.length = x.m.qn
  rd : x.rd.length = x.m.rn
  cd : x.cd.length = x.m.cn
  dd : x.dd.length = x.m.dn
  lo : x.od.length ≤ 1048576
  lq : x.qd.length ≤ 1048576
  lr : x.rd.length ≤ 1048576
  lc : x.cd.length ≤ 1048576
  ld : x.dd.length ≤ 1048576
/-- its bytes lie in memory -/
structure MsR (w : World) (x : MsD) : Prop where
  od : BRow w x.m.oa x.m.ocp x.od
  qd : BRow w x.m.qa x.m.qcp x.qd
  rd : BRow w x.m.ra x.m.rcp x.rd
  cd : BRow w x.m.ca x.m.ccp x.cd
  dd : BRow w x.m.da x.m.dcp x.dd
theorem MsR.later {w w' : World} {x : MsD} (h : MsR w x) (hb : Below w.heap.size w w') : MsR w' x := ⟨h.od.later hb, h.qd.later hb, h.rd.later hb, h.cd.later hb, h.dd.later hb⟩
/-- what is laid down of it -/
def laidB (x : MsD) : List Nat :=
  if x.m.kd = 1 then bigTo x.m.fl 4 4
  else if x.m.kd = 2 then oL x.m.oc x.od
  else if x.m.kd = 3 then qL x.m.qf x.m.qt x.m.qc x.m.qo (askN x.m) (askD x.m x.qd) x.m.wd
  else if x.m.kd = 4 then rL x.m.ro x.m.rk x.rd
  else if x.m.kd = 5 then (if x.m.wd = true then cL64 x.m.cf x.m.ct x.m.cc x.m.co x.cd else cL x.m.cf x.m.ct x.m.cc x.cd)
  else if x.m.kd = 6 then gL (x.m.fl % 65536)
  else if x.m.kd = 7 then sL x.m.sc x.m.sk ++ x.dd
  else []
def laidO (x : MsD) : Bool := decide (1 ≤ x.m.kd) && decide (x.m.kd ≤ 7)
theorem laidB_len (x : MsD) (h : MsN x) : (laidB x).length ≤ 1048608 := by
  have l1 := h.lo
  have l2 := h.lq
  have l3 := h.lr
  have l4 := h.lc
  have l5 := h.ld
  have ha : (askD x.m x.qd).length ≤ x.qd.length := by unfold askD; split <;> simp
  unfold laidB
  split
  · first | (simp [bigTo_length]; done) | (simp [bigTo_length]; omega)
  split
  · first | (simp [oL, bigTo_length]; done) | (simp [oL, bigTo_length]; omega)
  split
  · have h1 := nL_le (askN x.m) x.m.wd
    first | (simp [qL, bigTo_length]; done) | (simp [qL, bigTo_length]; omega)
  split
  · first | (simp [rL, bigTo_length]; done) | (simp [rL, bigTo_length]; omega)
  split
  · split
    · first | (simp [cL64, nL, bigTo_length]; done) | (simp [cL64, nL, bigTo_length]; omega)
    · first | (simp [cL, nL, bigTo_length]; done) | (simp [cL, nL, bigTo_length]; omega)
  split
  · first | (simp [gL, bigTo_length]; done) | (simp [gL, bigTo_length]; omega)
  split
  · first | (simp [sL, bigTo_length]; done) | (simp [sL, bigTo_length]; omega)
  · simp
theorem laidB_pos (x : MsD) (h : laidO x = true) : 0 < (laidB x).length := by
  simp only [laidO, Bool.and_eq_true, decide_eq_true_eq] at h
  unfold laidB
  split
  · simp [bigTo_length]
  split
  · first | (simp [oL, bigTo_length]; done) | (simp [oL, bigTo_length]; omega)
  split
  · first | (simp [qL, bigTo_length]; done) | (simp [qL, bigTo_length]; omega)
  split
  · first | (simp [rL, bigTo_length]; done) | (simp [rL, bigTo_length]; omega)
  split
  · split
    · first | (simp [cL64, bigTo_length]; done) | (simp [cL64, bigTo_length]; omega)
    · first | (simp [cL, bigTo_length]; done) | (simp [cL, bigTo_length]; omega)
  split
  · simp [gL, bigTo_length]
  split
  · first | (simp [sL, bigTo_length]; done) | (simp [sL, bigTo_length]; omega)
  · omega
theorem laidB_no (x : MsD) (h : laidO x = false) : laidB x = [] := by
  simp only [laidO, Bool.and_eq_false_iff, decide_eq_false_iff_not] at h
  unfold laidB
  rw [if_neg (by omega), if_neg (by omega), if_neg (by omega), if_neg (by omega), if_neg (by omega), if_neg (by omega), if_neg (by omega)]
theorem laid_any (x : MsD) (w : World) (h : MsN x) (hr : MsR w x) : Calls Try.prog 20 #[.agg x.m.cells] w fun e w' => LaidP w (laidB x) (laidO x) e w' := by
  obtain ⟨m, od, qd, rd, cd, dd⟩ := x
  obtain ⟨kd, fl, oc, ol, og, oa, on, ocp, qf, qt, qc, qo, ql, qa, qn, qcp, ro, rk, ra, rn, rcp, cf, ct, cc, co, ca, cn, ccp, sc, sk, da, dn, dcp, wd⟩ := m
  obtain ⟨h1, h2, h3, h4, h5, h6, h7, h8, h9, h10, h11, h12, h13, h14, h15, d1, d2, d3, d4, d5, l1, l2, l3, l4, l5⟩ := h
  obtain ⟨r1, r2, r3, r4, r5⟩ := hr
  simp only at h1 h2 h3 h4 h5 h6 h7 h8 h9 h10 h11 h12 h13 h14 h15 d1 d2 d3 d4 d5 l1 l2 l3 l4 l5 r1 r2 r3 r4 r5
  unfold laidB laidO
  simp only
  by_cases k1 : kd = 1
  · subst k1; exact laid_1 _ _ _ _ _ _ _ _ _ _ _ _ _ _ _ _ _ _ _ _ _ _ _ _ _ _ _ _ _ _ _ _ _ w h1
  rw [if_neg k1]
  by_cases k2 : kd = 2
  · subst k2; exact laid_2 _ _ _ _ _ _ _ _ _ _ _ _ _ _ _ _ _ _ _ _ _ _ _ _ _ _ _ _ _ _ _ _ _ w od d1 r1 h2 (by omega)
  rw [if_neg k2]
  by_cases k3 : kd = 3
  · rw [if_pos k3]; subst k3; exact laid_3m ⟨3, fl, oc, ol, og, oa, on, ocp, qf, qt, qc, qo, ql, qa, qn, qcp, ro, rk, ra, rn, rcp, cf, ct, cc, co, ca, cn, ccp, sc, sk, da, dn, dcp, wd⟩ w qd rfl d2 r2 h3 h4 h5 h6 h7 (by omega)
  rw [if_neg k3]
  by_cases k4 : kd = 4
  · subst k4; exact laid_4 _ _ _ _ _ _ _ _ _ _ _ _ _ _ _ _ _ _ _ _ _ _ _ _ _ _ _ _ _ _ _ _ _ w rd d3 r3 h8 h9 (by omega)
  rw [if_neg k4]
  by_cases k5 : kd = 5
  · subst k5
    cases wd
    · exact laid_5f _ _ _ _ _ _ _ _ _ _ _ _ _ _ _ _ _ _ _ _ _ _ _ _ _ _ _ _ _ _ _ _ w cd d4 r4 h10 h11 h12 h13 (by omega)
    · exact laid_5t _ _ _ _ _ _ _ _ _ _ _ _ _ _ _ _ _ _ _ _ _ _ _ _ _ _ _ _ _ _ _ _ w cd d4 r4 h10 h11 h12 h13 (by omega)
  rw [if_neg k5]
  by_cases k6 : kd = 6
  · subst k6; exact laid_6 _ _ _ _ _ _ _ _ _ _ _ _ _ _ _ _ _ _ _ _ _ _ _ _ _ _ _ _ _ _ _ _ _ w h1
  rw [if_neg k6]
  by_cases k7 : kd = 7
  · subst k7; exact laid_7 _ _ _ _ _ _ _ _ _ _ _ _ _ _ _ _ _ _ _ _ _ _ _ _ _ _ _ _ _ _ _ _ _ w dd d5 r5 h14 h15 (by omega)
  rw [if_neg k7]
  have hk : (decide (1 ≤ kd) && decide (kd ≤ 7)) = false := by
    rw [Bool.and_eq_false_iff, decide_eq_false_iff_not, decide_eq_false_iff_not]; omega
  rw [hk]
  exact laid_none kd _ _ _ _ _ _ _ _ _ _ _ _ _ _ _ _ _ _ _ _ _ _ _ _ _ _ _ _ _ _ _ _ _ w (by rw [beq_eq_false_iff_ne]; exact k1) (by rw [beq_eq_false_iff_ne]; exact k2) (by rw [beq_eq_false_iff_ne]; exact k3) (by rw [beq_eq_false_iff_ne]; exact k4) (by rw [beq_eq_false_iff_ne]; exact k5) (by rw [beq_eq_false_iff_ne]; exact k6) (by rw [beq_eq_false_iff_ne]; exact k7)
end Go.Proofs.Ytckfmpoddmccfaa

namespace Go.Proofs.Ytckfmpoddmccfaa
open Go.RowKit
set_option linter.unusedVariables false
set_option linter.unusedSimpArgs false
set_option maxRecDepth 100000

/-- the option of heads -/
def hb17 : List Nat := [73, 72, 65, 86, 69, 79, 80, 84, 0, 0, 0, 3, 0, 0, 0, 1, 7]
theorem optC_9 : optC 64 0 (hb17.take 9) = ((0, 0, false, []), 0, 0, hb17.take 9) := by decide
theorem optC_17 : optC 64 0 hb17 = ((3, 1, false, [7]), 1, 0, []) := by decide
theorem blk_crow {W : World} {g : Nat} {l : List Nat} (hg : W.heap[g]? = some (.cells (l.map bv).toArray 5 (0, 0))) (hlt : ∀ x ∈ l, x < 256) (a k c : Nat) (h1 : a + k ≤ l.length) (h2 : k ≤ c) (h3 : c ≤ 9223372036854775807) (h4 : l.length ≤ 140737488351232) : CRow W (some ⟨g, a, none⟩) c ((l.drop a).take k) := by
  have hlen : ((l.drop a).take k).length = k := by rw [List.length_take, List.length_drop]; omega
  refine ⟨⟨fun x hx => hlt x (List.mem_of_mem_drop (List.mem_of_mem_take hx)), by omega, fun h => by simp at h, fun _ => ⟨_, _, rfl, fun j hj => ?_⟩⟩, by omega, h3⟩
  rw [hlen] at hj
  rw [blk_cell hg, List.getElem?_map, List.getElem?_eq_getElem (by omega)]
  simp
set_option maxHeartbeats 8000000 in
theorem heads_any (w : World) : Calls Try.prog 10 #[] w fun e w' => e = .returned (.bool true) ∧ Below w.heap.size w w' := by
  have HN : Hid (Calls Try.prog 18 #[.int .i64 60] w fun e w' => e = .returned (.tuple #[.pointer (some ⟨w.heap.size, 0, none⟩), .int .i64 0]) ∧ Inb w' w.heap.size w.heap.size (.slice none 0 0) 60 0 [] ∧ Below w.heap.size w w') := newI 60 (by decide) (by decide) w
  go_enter Try.func10, Try.ntmps10
  go_wp2_with fail
  refine HN.out.mono ?_
  rintro e W1 ⟨rfl, hI1, hB1⟩
  have HI1 : Hid _ := hI1
  have HB1 : Hid _ := hB1
  clear hI1 hB1 HN
  obtain ⟨W2, hW2⟩ : ∃ W2, W2 = W1.alloc (.cells #[.int .u8 73, .int .u8 72, .int .u8 65, .int .u8 86, .int .u8 69, .int .u8 79, .int .u8 80, .int .u8 84, .int .u8 0, .int .u8 0, .int .u8 0, .int .u8 3, .int .u8 0, .int .u8 0, .int .u8 0, .int .u8 1, .int .u8 7] 5) := ⟨_, rfl⟩
  have hb2 : Below W1.heap.size W1 W2 := by rw [hW2]; exact (Below.refl _ _).alloc (Nat.le_refl _) _
  have hg2 : W2.heap[W1.heap.size]? = some (.cells (hb17.map bv).toArray 5 (0, 0)) := by rw [hW2]; exact heap_new W1 _
  have hlo : w.heap.size < W1.heap.size := block_lt HI1.out.blk
  have hI2 : Inb W2 w.heap.size w.heap.size (.slice none 0 0) 60 0 [] := HI1.out.later hb2
  have HB2 : Hid (Below w.heap.size w W2) := HB1.out.trans (hb2.mono HB1.out.size)
  have HRow : Hid (∀ W : World, W.heap[W1.heap.size]? = some (.cells (hb17.map bv).toArray 5 (0, 0)) → CRow W (some ⟨W1.heap.size, 0, none⟩) 17 ((hb17.drop 0).take 9) ∧ CRow W (some ⟨W1.heap.size, 9, none⟩) 8 ((hb17.drop 9).take 8)) := fun W hg => by
    exact ⟨blk_crow hg (by decide) 0 9 17 (by decide) (by decide) (by decide) (by decide), blk_crow hg (by decide) 9 8 8 (by decide) (by decide) (by decide) (by decide)⟩
  have HFd : Hid _ := feedI hI2 (some ⟨W1.heap.size, 0, none⟩) 17 9 ((hb17.drop 0).take 9) (HRow.out W2 hg2).1 (by show _ = _; rfl) (by decide) 0 9 rfl rfl
  have HG2 : Hid _ := hg2
  clear hb2 hg2 HI1 HB1
  have HI2 : Hid _ := hI2
  clear hI2
  go_wp2_with fail
  rw [← hW2]
  clear hW2
  refine Calls.mono HFd.out ?_
  rintro e W3 ⟨rfl, v3, hI3, hA3⟩
  have el3 : ([] : List Nat) ++ (((hb17.drop 0).take 9).drop 0).take 9 = hb17.take 9 := by decide
  rw [el3] at hI3
  have HG3 : Hid (W3.heap[W1.heap.size]? = some (.cells (hb17.map bv).toArray 5 (0, 0))) := (hA3.kept.block _ (block_lt HG2.out) (by rintro (e | e) <;> first | omega | simp [Value.ownBlock] at e)).trans HG2.out
  have HB3 : Hid (Below w.heap.size w W3) := HB2.out.trans (hA3.below HI2.out)
  have HOp : Hid (Calls Try.prog 24 #[.pointer (some ⟨w.heap.size, 0, none⟩), .int .u32 64] W3 fun e w' => OptI W3 w.heap.size w.heap.size v3 60 (optC 64 0 (hb17.take 9)) e w') := optionI hI3 64 (by decide)
  rw [optC_9] at HOp
  have HI3 : Hid _ := hI3
  have hv3 : ∀ g, v3.ownBlock = some g → g ≠ W1.heap.size := fun g hg e => by
    have h2 := block_lt HG2.out
    rcases hA3.fresh with f | ⟨g', f, hlt⟩
    · rw [f] at hg; simp [Value.ownBlock] at hg
    · rw [hg] at f; simp at f; omega
  have HV3 : Hid _ := hv3
  clear HFd hI3 hA3 el3 hv3 HG2 HB2 HI2
  go_wp2_with fail
  refine HOp.out.mono ?_
  rintro e W4 ⟨c, k, lg, d, cu, ov', l', v4, ao4, cap4, rfl, hx, hI4, hA4, hr4, hn4⟩
  simp only [Prod.mk.injEq] at hx
  obtain ⟨⟨rfl, rfl, rfl, rfl⟩, rfl, rfl, rfl⟩ := hx
  have HG4 : Hid (W4.heap[W1.heap.size]? = some (.cells (hb17.map bv).toArray 5 (0, 0))) := (hA4.kept.block _ (block_lt HG3.out) (by rintro (e | e); (· omega); exact HV3.out _ e rfl)).trans HG3.out
  have hv4 : ∀ g, v4.ownBlock = some g → g ≠ W1.heap.size := fun g hg e => by
    have h2 := block_lt HG3.out
    rcases hA4.fresh with f | ⟨g', f, hlt⟩
    · exact HV3.out g (f ▸ hg) e
    · rw [hg] at f; simp at f; omega
  have HB4 : Hid (Below w.heap.size w W4) := HB3.out.trans (hA4.below HI3.out)
  obtain ⟨W5, hW5⟩ : ∃ W5, W5 = W4.alloc (.cells #[.int .u32 0, .int .u32 0, .bool false, .slice ao4 0 cap4] 57) := ⟨_, rfl⟩
  have hb5 : Below W4.heap.size W4 W5 := by rw [hW5]; exact (Below.refl _ _).alloc (Nat.le_refl _) _
  have hI5 := hI4.later hb5
  have HI5 : Hid _ := hI5
  have HG5 : Hid (W5.heap[W1.heap.size]? = some (.cells (hb17.map bv).toArray 5 (0, 0))) := (hb5.block _ (block_lt HG4.out)).trans HG4.out
  have HB5 : Hid (Below w.heap.size w W5) := HB4.out.trans (hb5.mono HB4.out.size)
  have HFd : Hid _ := feedI hI5 (some ⟨W1.heap.size, 9, none⟩) 8 8 ((hb17.drop 9).take 8) (HRow.out W5 HG5.out).2 (by show _ = _; rfl) (by decide) 0 8 rfl rfl
  clear HOp HI3 HV3 HG3 HB3 hI4 hA4 hr4 hn4 hv4 HG4 HB4 hb5 hI5 HRow
  go_wp2_with fail
  rw [← hW5]
  clear hW5
  refine Calls.mono HFd.out ?_
  rintro e W6 ⟨rfl, v6, hI6, hA6⟩
  have el6 : (hb17.take 9) ++ (((hb17.drop 9).take 8).drop 0).take 8 = hb17 := by decide
  rw [el6] at hI6
  have HB6 : Hid (Below w.heap.size w W6) := HB5.out.trans (hA6.below HI5.out)
  have HOp : Hid (Calls Try.prog 24 #[.pointer (some ⟨w.heap.size, 0, none⟩), .int .u32 64] W6 fun e w' => OptI W6 w.heap.size w.heap.size v6 60 (optC 64 0 hb17) e w') := optionI hI6 64 (by decide)
  rw [optC_17] at HOp
  have HI6 : Hid _ := hI6
  clear HFd hI6 hA6 el6 HI5 HG5 HB5
  go_wp2_with fail
  refine HOp.out.mono ?_
  rintro e W7 ⟨c, k, lg, d, cu, ov', l', v7, ao7, cap7, rfl, hx, hI7, hA7, hr7, hn7⟩
  simp only [Prod.mk.injEq] at hx
  obtain ⟨⟨rfl, rfl, rfl, rfl⟩, rfl, rfl, rfl⟩ := hx
  have HB7 : Hid (Below w.heap.size w W7) := HB6.out.trans (hA7.below HI6.out)
  obtain ⟨W8, hW8⟩ : ∃ W8, W8 = W7.alloc (.cells #[.int .u32 3, .int .u32 1, .bool false, .slice ao7 1 cap7] 57) := ⟨_, rfl⟩
  have hb8 : Below W7.heap.size W7 W8 := by rw [hW8]; exact (Below.refl _ _).alloc (Nat.le_refl _) _
  have HB8 : Hid (Below w.heap.size w W8) := HB7.out.trans (hb8.mono HB7.out.size)
  have hI8 := hI7.later hb8
  have hr8 : W8.ownsRow W6.heap.size 5 1 (.slice ao7 1 cap7) 1 [bv 7] := owns_same hr7 fun g hg => hb8.block g (owns_lt hr7 g hg).1
  obtain ⟨g7, hao⟩ : ∃ g7, ao7 = some ⟨g7, 0, none⟩ := by
    rcases hr8.2 with ⟨hv, hn⟩ | ⟨g, c', cur, hv, _⟩
    · simp at hn
    · simp only [Value.slice.injEq] at hv; exact ⟨g, hv.1⟩
  subst hao
  have x7 : W8.cell? ⟨g7, 0, none⟩ = some (.int .u8 7) := by
    have := hr8.cellAt 0 (by decide)
    simpa [bv] using this
  have HH : Hid _ := heldI hI8
  have HRm : Hid _ := roomI hI8
  clear HOp hI7 hA7 hr7 hn7 hb8 HI6 HB6 HB7 hr8 hI8
  have x8 := x7
  rw [hW8] at x8
  go_wp2_with fail
  rw [← hW8]
  clear hW8 x8
  refine Calls.mono HH.out ?_
  rintro e W9 ⟨rfl, hw9⟩
  rw [hw9]; clear hw9
  go_wp2_with fail
  refine Calls.mono HRm.out ?_
  rintro e W9 ⟨rfl, q, hw9⟩
  have HB9 : Hid (Below w.heap.size w W9) := by
    show Below _ _ _
    rw [hw9]; exact HB8.out.trans ⟨rfl, rfl, rfl, Nat.le_refl _, fun _ _ => rfl⟩
  clear hw9
  go_wp2
  go_ret
  exact ⟨rfl, HB9.out⟩
end Go.Proofs.Ytckfmpoddmccfaa

namespace Go.Proofs.Ytckfmpoddmccfaa
open Go.RowKit
set_option linter.unusedVariables false
set_option linter.unusedSimpArgs false
set_option maxRecDepth 100000
theorem brow_own' {W : World} {B : Nat} {ao : Option Addr} {cap n : Nat} {l : List Nat} (h : W.ownsRow B 5 1 (.slice ao n cap) n (l.map bv)) (hn : l.length = n) (hlt : ∀ x ∈ l, x < 256) (hl : l.length ≤ 140737488351232) : BRow W ao cap l := by
  subst hn
  obtain ⟨ao', cap', hv, hb⟩ := BRow.own h hlt hl
  simp only [Value.slice.injEq] at hv
  obtain ⟨rfl, _, rfl⟩ := hv
  exact hb
/-- messages in memory -/
structure MRow (w : World) (ao : Option Addr) (X : List MsD) : Prop where
  len : X.length ≤ 1048576
  at_ : X ≠ [] → ∃ b off, ao = some ⟨b, off, none⟩ ∧ ∀ k (hk : k < X.length) j (hj : j < 24), w.cell? ⟨b, off + k * 24 + j, none⟩ = (X[k].m.cells)[j]?
theorem MRow.later {w w' : World} {ao : Option Addr} {X : List MsD} (h : MRow w ao X) (hb : Below w.heap.size w w') : MRow w' ao X := by
  refine ⟨h.len, fun hne => ?_⟩
  obtain ⟨b, off, e, hc⟩ := h.at_ hne
  refine ⟨b, off, e, fun k hk j hj => ?_⟩
  have h1 := hc k hk j hj
  have hs : (X[k].m.cells).size = 24 := rfl
  obtain ⟨u, hu⟩ : ∃ u, (X[k].m.cells)[j]? = some u := ⟨(X[k].m.cells)[j]'(by omega), Array.getElem?_eq_getElem (show j < X[k].m.cells.size by omega)⟩
  rw [hu] at h1 ⊢
  exact cell_later hb h1
/-- numbers in memory -/
structure ZRow (w : World) (po : Option Addr) (pn : Nat) : Prop where
  pos : 0 < pn → ∃ b off, po = some ⟨b, off, none⟩ ∧ ∀ i, i < pn → ∃ z : Int, w.cell? ⟨b, off + i, none⟩ = some (.int .i64 z)
  len : pn ≤ 1099511627776
theorem ZRow.later {w w' : World} {po : Option Addr} {pn : Nat} (h : ZRow w po pn) (hb : Below w.heap.size w w') : ZRow w' po pn :=
  ⟨fun hp => by
    obtain ⟨b, off, e, hc⟩ := h.pos hp
    exact ⟨b, off, e, fun i hi => by obtain ⟨z, hz⟩ := hc i hi; exact ⟨z, cell_later hb hz⟩⟩, h.len⟩
/-- the first loop: all is laid down -/
structure L1 (w wr : World) (X : List MsD) (k rm an : Nat) (ao : Option Addr) (cap : Nat) (A : List Nat) : Prop where
  bel : Below w.heap.size w wr
  own : wr.ownsRow w.heap.size 5 1 (.slice ao an cap) an (A.map bv)
  eq : A = (X.take k).flatMap laidB
  len : A.length = an
  lt : ∀ x ∈ A, x < 256
  r1 : 1 ≤ rm
  r2 : rm ≤ 1048608
  rr : ∀ x ∈ X.take k, (laidB x).length ≤ rm
  le : an ≤ k * 1048608
theorem take_fm (X : List MsD) (k : Nat) (hk : k < X.length) : (X.take (k + 1)).flatMap laidB = (X.take k).flatMap laidB ++ laidB X[k] := by
  rw [List.take_succ_eq_append_getElem hk, List.flatMap_append, List.flatMap_cons, List.flatMap_nil, List.append_nil]
theorem drop_fm (X : List MsD) (k : Nat) (hk : k < X.length) : (X.drop k).flatMap laidB = laidB X[k] ++ (X.drop (k + 1)).flatMap laidB := by
  rw [List.drop_eq_getElem_cons hk, List.flatMap_cons]
theorem L1.step {w wr W2 W3 : World} {X : List MsD} {k rm an bn rm' : Nat} {ao ao3 ao2 : Option Addr} {cap cap3 cap2 : Nat} {A : List Nat} (h : L1 w wr X k rm an ao cap A) (hk : k < X.length) (hr : Row wr W2 ao2 cap2 (laidB X[k])) (hb : (laidB X[k]).length = bn) (hbl : bn ≤ 1048608)
    (ho : W3.ownsRow w.heap.size 5 1 (.slice ao3 (an + bn) cap3) (an + bn) (A.map bv ++ (laidB X[k]).map bv)) (hg : W2.grownBy W3 (Value.slice ao an cap).ownBlock) (hm : rm' = max rm bn) : L1 w W3 X (k + 1) rm' (an + bn) ao3 cap3 (A ++ laidB X[k]) := by
  have hb2 : Below w.heap.size w W2 := h.bel.trans (hr.bel.mono h.bel.size)
  refine ⟨hb2.grown hg hb2.size (fun g hgg => (owns_lt h.own g hgg).2), by rw [List.map_append]; exact ho, by rw [take_fm X k hk, h.eq], by rw [List.length_append, h.len, hb], fun x hx => ?_, by have := h.r1; omega, by have := h.r2; omega, fun x hx => ?_, by have := h.le; rw [Nat.add_mul]; omega⟩
  · rcases List.mem_append.1 hx with h9 | h9
    · exact h.lt x h9
    · exact hr.lt x h9
  · rw [List.take_succ_eq_append_getElem hk] at hx
    rcases List.mem_append.1 hx with h9 | h9
    · have := h.rr x h9; omega
    · obtain rfl : x = X[k] := by simpa using h9
      omega
/-- the second loop: what is held, and what is still to be fed, are the bytes from this message on -/
structure L2 (Wa wr : World) (X : List MsD) (A : List Nat) (rm i at_ : Nat) (v : Value) (H : List Nat) : Prop where
  bel : Below Wa.heap.size Wa wr
  inb : Inb wr Wa.heap.size Wa.heap.size v rm 0 H
  eq : H ++ A.drop at_ = (X.drop i).flatMap laidB
  le : at_ ≤ A.length
/-- the same, at a message -/
structure L3 (Wa wr : World) (A R Bx : List Nat) (rm at_ : Nat) (v : Value) (H : List Nat) : Prop where
  bel : Below Wa.heap.size Wa wr
  inb : Inb wr Wa.heap.size Wa.heap.size v rm 0 H
  eq : H ++ A.drop at_ = Bx ++ R
  le : at_ ≤ A.length
theorem L3.left {Wa wr : World} {A R Bx : List Nat} {rm at_ : Nat} {v : Value} {H : List Nat} (h : L3 Wa wr A R Bx rm at_ v H) (hl : H.length < Bx.length) : at_ < A.length := by
  rcases Nat.lt_or_ge at_ A.length with h1 | h1
  · exact h1
  · have := congrArg List.length h.eq
    rw [List.drop_of_length_le h1, List.append_nil, List.length_append] at this
    omega
theorem L3.fed {Wa wr W' : World} {A R Bx : List Nat} {rm at_ n m : Nat} {v v' : Value} {H : List Nat} (h : L3 Wa wr A R Bx rm at_ v H) (hm : m ≤ n) (hn : at_ + n ≤ A.length) (hi : Inb W' Wa.heap.size Wa.heap.size v' rm 0 (H ++ (((A.drop at_).take n).drop 0).take m)) (ha : IAct wr W' Wa.heap.size v v') : L3 Wa W' A R Bx rm (at_ + m) v' (H ++ (A.drop at_).take m) := by
  have e1 : (((A.drop at_).take n).drop 0).take m = (A.drop at_).take m := by rw [List.drop_zero, List.take_take, Nat.min_eq_left hm]
  rw [e1] at hi
  refine ⟨h.bel.trans (ha.below h.inb), hi, ?_, by omega⟩
  rw [← h.eq, List.append_assoc, ← List.drop_drop, List.take_append_drop]
theorem L3.done {Wa wr W' : World} {A R Bx : List Nat} {rm at_ : Nat} {v v' : Value} {H : List Nat} (h : L3 Wa wr A R Bx rm at_ v H) (hl : Bx.length ≤ H.length) : H = Bx ++ H.drop Bx.length ∧ H.drop Bx.length ++ A.drop at_ = R := by
  have e1 := h.eq
  have e2 : H = H.take Bx.length ++ H.drop Bx.length := (List.take_append_drop _ _).symm
  rw [e2, List.append_assoc] at e1
  have h3 := List.append_inj e1 (by rw [List.length_take]; omega)
  exact ⟨by conv => lhs; rw [e2, h3.1], h3.2⟩
theorem idx_facts (i kk pn : Nat) (hp : 0 < pn) (hb : i + kk ≤ 4611686018427387904) : ∃ ix ik : Nat, ix < pn ∧ IntKind.i64.wrap ((i : Int) + (kk : Int)) = (ik : Int) ∧ (ik : Int).tmod (pn : Int) = (ix : Int) ∧ ((i : Int) + (kk : Int)).tmod (pn : Int) = (ix : Int) ∧ (ix : Int) < (pn : Int) ∧ (0 : Int) < (pn : Int) ∧ ¬ (pn : Int) = 0 := by
  have h9 : (i : Int) + (kk : Int) = ((i + kk : Nat) : Int) := by omega
  have h1 : (((i + kk : Nat) : Int)).tmod (pn : Int) = (((i + kk) % pn : Nat) : Int) := by rw [Int.ofNat_tmod]
  have h2 : (i + kk) % pn < pn := Nat.mod_lt _ hp
  refine ⟨(i + kk) % pn, i + kk, h2, by rw [IntKind.wrap_i64]; omega, h1, by rw [h9]; exact h1, by omega, by omega, by omega⟩
theorem piece_facts (z : Int) : ∃ r m0 : Nat, (IntKind.u64.wrap z).tmod 64 = (r : Int) ∧ IntKind.i64.wrap (r : Int) = (r : Int) ∧ wrap64 (r : Int) = (r : Int) ∧ IntKind.i64.wrap (1 + (r : Int)) = (m0 : Int) ∧ 1 ≤ m0 ∧ m0 ≤ 64 := by
  have h0 : 0 ≤ IntKind.u64.wrap z := by rw [IntKind.wrap_u64]; omega
  have h1 : 0 ≤ (IntKind.u64.wrap z).tmod 64 := Int.tmod_nonneg _ h0
  have h2 : (IntKind.u64.wrap z).tmod 64 < 64 := Int.tmod_lt_of_pos _ (by omega)
  generalize (IntKind.u64.wrap z).tmod 64 = t at *
  refine ⟨t.toNat, 1 + t.toNat, by omega, by rw [IntKind.wrap_i64]; omega, by unfold wrap64; omega, by rw [IntKind.wrap_i64]; omega, by omega, by omega⟩
theorem feed_facts (n1 an a cap : Nat) (h1 : 1 ≤ n1) (h2 : n1 ≤ 64) (ha : a < an) (han : an ≤ 1099545182208) (hc : an ≤ cap) (hc2 : cap ≤ 9223372036854775807) : ∃ D m2 T : Nat, IntKind.i64.wrap ((an : Int) - (a : Int)) = (D : Int) ∧ (an : Int) - (a : Int) = (D : Int) ∧ m2 = min n1 D ∧ 1 ≤ m2 ∧ a + m2 ≤ an ∧ m2 ≤ 64 ∧ IntKind.i64.wrap ((a : Int) + (m2 : Int)) = (T : Int) ∧ (a : Int) + (m2 : Int) = (T : Int) ∧ (a : Int) ≤ (T : Int) ∧ (T : Int) ≤ (cap : Int) ∧ T - a = m2 ∧ ¬ cap = a ∧ ¬ (cap : Int) = (a : Int) :=
  ⟨an - a, min n1 (an - a), a + min n1 (an - a), by rw [IntKind.wrap_i64]; omega, by omega, rfl, by omega, by omega, by omega, by rw [IntKind.wrap_i64]; omega, by omega, by omega, by omega, by omega, by omega, by omega⟩
theorem got_facts (m2 hl rm bn a an : Nat) (h1 : 1 ≤ m2) (hh : hl < bn) (hb : bn ≤ rm) (ha : a + m2 ≤ an) (han : an ≤ 1099545182208) : ∃ mm : Nat, min (m2 - 0) (rm - hl) = mm ∧ 1 ≤ mm ∧ mm ≤ m2 ∧ ¬ (mm : Int) < 1 ∧ ¬ (m2 : Int) < (mm : Int) ∧ IntKind.i64.wrap ((a : Int) + (mm : Int)) = ((a + mm : Nat) : Int) :=
  ⟨min (m2 - 0) (rm - hl), rfl, by omega, by omega, by omega, by omega, by rw [IntKind.wrap_i64]; omega⟩
theorem min_lo {n1 D m2 : Nat} (h : m2 = min n1 D) (hd : D < n1) : m2 = D := by omega
theorem min_hi {n1 D m2 : Nat} (h : m2 = min n1 D) (hd : ¬ D < n1) : m2 = n1 := by omega
theorem mod64 (z : Int) : ∃ r : Nat, (IntKind.u64.wrap z).tmod 64 = (r : Int) ∧ r < 64 := by
  have h0 : 0 ≤ IntKind.u64.wrap z := by rw [IntKind.wrap_u64]; omega
  have h1 : 0 ≤ (IntKind.u64.wrap z).tmod 64 := Int.tmod_nonneg _ h0
  have h2 : (IntKind.u64.wrap z).tmod 64 < 64 := Int.tmod_lt_of_pos _ (by omega)
  exact ⟨((IntKind.u64.wrap z).tmod 64).toNat, by omega, by omega⟩
end Go.Proofs.Ytckfmpoddmccfaa

namespace Go.Proofs.Ytckfmpoddmccfaa
open Go.RowKit
set_option linter.unusedVariables false
set_option linter.unusedSimpArgs false
set_option maxRecDepth 100000

set_option maxHeartbeats 8000000 in
theorem greetingI {w : World} {B b : Nat} {v : Value} {rm ov : Nat} {l : List Nat} (h : Inb w B b v rm ov l)   :
    Calls Try.prog 31 #[.pointer (some ⟨b, 0, none⟩)] w fun e w' => CutGreeting w B b v rm ov l (greD l) e w' := by
  have h5 : 88 ≠ 5 := by decide
  obtain ⟨ao, cap, hv, hcr⟩ := h.row.crow
  obtain ⟨W0, hW0⟩ : ∃ W0, W0 = w.alloc (.cells #[.int .u16 0] 88) := ⟨_, rfl⟩
  have hC0 := (Cf.start h).alloc #[.int .u16 0] 88 h5
  rw [← hW0] at hC0
  have H0 : Hid _ := hC0
  have hb0 : Below w.heap.size w W0 := by rw [hW0]; exact (Below.refl _ _).alloc (Nat.le_refl _) _
  have HCt : Hid _ := cutGreeting hC0.inb #[] (greD l) (greD_n  l) (fun W hW => by
      have hc : CRow W ao cap l := (hcr.later hb0).later hW
      have := decGreetingA ao cap l  W hc 
      rw [hv]
      refine Calls.mono this ?_
      rintro e W' ⟨f, n, er, rfl, hD, hb⟩
      exact ⟨f, n, er, none, 0, rfl, hD, World.ownsRow_nil _ _ _ _, by simp, hb⟩)
  clear hC0  hb0 hcr hv
  go_enter Try.func31, Try.ntmps31
  go_wp2_with fail
  rw [← hW0]
  clear hW0
  refine Calls.mono HCt.out ?_
  rintro e W1 ⟨f, cu, l', v', ao2, cap2, rfl, hcut, hI, hA, hr, hn⟩
  have HCu : Hid _ := hcut
  have H1 : Hid _ := H0.out.told2 (d' := ([] : List Nat)) hI hA hr hn
  clear HCt hcut hI hA hr hn H0
  obtain ⟨r0, f0⟩ := H1.out.c (.head _) 0
  simp at r0
  have HF : Hid _ := (Cf.put (pre := []) H1.out 0 (.int .u16 (f : Int)) (cs' := #[.int .u16 (f : Int)]) rfl)
  clear H1
  go_wp2
  exact bodyPost_ret (results_cell_tmp1 rfl _ _ (w.heap.size) 88 #[.int .u16 (f : Int)] (0, 0) _ rfl (HF.out.box _ (.head _)).1 Try.underlying88 rfl infoGre) rfl ⟨f, cu, l', v', ao2, cap2, rfl, HCu.out, HF.out.inb, HF.out.act, HF.out.row, HF.out.rn⟩
end Go.Proofs.Ytckfmpoddmccfaa

namespace Go.Proofs.Ytckfmpoddmccfaa
open Go.RowKit
set_option linter.unusedVariables false
set_option linter.unusedSimpArgs false
set_option maxRecDepth 100000

set_option maxHeartbeats 4000000 in
theorem reply1 (ao : Option Addr) (cap : Nat) (l : List Nat) (most : Nat) (pmost : Nat) (w : World) (h : CRow w ao cap l) (hm : most < 4294967296) (hpmost : w.cell? ⟨pmost, 0, none⟩ = some (.int .u32 (most : Int))) :
    Calls Try.prog 71 #[.slice ao l.length cap, .pointer (some ⟨pmost, 0, none⟩)] w fun e w' => ∃ (o : Nat) (k : Nat) (d : List Nat) (n er : Nat) (ao2 : Option Addr) (cap2 : Nat), e = .returned (.tuple #[.agg #[.int .u32 (o : Int), .int .u32 (k : Int), .slice ao2 d.length cap2], .int .i64 (n : Int), .int .i64 (er : Int)]) ∧ repD most l = ((o, k, d), n, er) ∧ Row w w' ao2 cap2 d := by
  have h5 : 62 ≠ 5 := by decide
  obtain ⟨W0, hW0⟩ : ∃ W0, W0 = w.alloc (.cells #[.int .u32 0, .int .u32 0, Value.slice none 0 0] 62) := ⟨_, rfl⟩
  have hB0 := (Bx.start w).alloc #[.int .u32 0, .int .u32 0, Value.slice none 0 0] 62 h5
  rw [← hW0] at hB0
  have H0 : Hid _ := hB0
  have hqmost : W0.cell? ⟨pmost, 0, none⟩ = some (.int .u32 (most : Int)) := cell_later hB0.bel hpmost
  have hrmost := hqmost
  rw [hW0] at hrmost
  have HD : Hid (Calls Try.prog 72 #[.slice ao l.length cap, .int .u32 (most : Int)] W0 fun e w' => ∃ (o : Nat) (k : Nat) (d : List Nat) (n er : Nat) (ao2 : Option Addr) (cap2 : Nat), e = .returned (.tuple #[.agg #[.int .u32 (o : Int), .int .u32 (k : Int), .slice ao2 d.length cap2], .int .i64 (n : Int), .int .i64 (er : Int)]) ∧ repD most l = ((o, k, d), n, er) ∧ Row W0 w' ao2 cap2 d) := decReplyA ao cap l most W0 (h.later hB0.bel) hm
  obtain ⟨ln, hln⟩ : ∃ ln, l.length = ln := ⟨_, rfl⟩
  rw [hln] at HD
  rw [hln]
  clear hB0 h
  go_enter Try.func71, Try.ntmps71
  go_wp2_with fail
  rw [← hW0]
  clear hW0 hrmost
  refine HD.out.mono ?_
  rintro e W1 ⟨o, k, d, n, er, ao2, cap2, rfl, hD, hr⟩
  have HDe : Hid (repD most l = ((o, k, d), n, er)) := hD
  have HR : Hid (∀ x ∈ d, x < 256) := hr.lt
  have H2 : Hid _ := H0.out.told hr
  clear H0 HD hD hr hqmost hpmost
  obtain ⟨r0, f0⟩ := H2.out.c (.head _) 0
  obtain ⟨r1, f1⟩ := H2.out.c (.head _) 1
  obtain ⟨r2, f2⟩ := H2.out.c (.head _) 2
  simp at r0 r1 r2
  have H3 : Hid _ := (Bx.put (pre := []) (Bx.put (pre := []) (Bx.put (pre := []) H2.out 0 (.int .u32 (o : Int)) (cs' := #[.int .u32 (o : Int), .int .u32 0, Value.slice none 0 0]) rfl) 1 (.int .u32 (k : Int)) (cs' := #[.int .u32 (o : Int), .int .u32 (k : Int), Value.slice none 0 0]) rfl) 2 (.slice ao2 d.length cap2) (cs' := #[.int .u32 (o : Int), .int .u32 (k : Int), .slice ao2 d.length cap2]) rfl)
  clear H2
  go_wp2
  exact bodyPost_ret (results_cell_tmp2 rfl _ _ w.heap.size 62 #[.int .u32 (o : Int), .int .u32 (k : Int), .slice ao2 d.length cap2] (0, 0) _ rfl (H3.out.box _ (.head _)).1 Try.underlying62 rfl infoRep) rfl ⟨o, k, d, n, er, ao2, cap2, rfl, HDe.out, H3.out.row, HR.out, H3.out.bel⟩
set_option maxHeartbeats 8000000 in
theorem replyI {w : World} {B b : Nat} {v : Value} {rm ov : Nat} {l : List Nat} (h : Inb w B b v rm ov l) (most : Nat) (hm : most < 4294967296) :
    Calls Try.prog 33 #[.pointer (some ⟨b, 0, none⟩), .int .u32 (most : Int)] w fun e w' => CutReply1 w B b v rm ov l (repD most l) e w' := by
  have h5 : 62 ≠ 5 := by decide
  have g0 : 36 ≠ 5 := by decide
  obtain ⟨ao, cap, hv, hcr⟩ := h.row.crow
  obtain ⟨W0, hW0⟩ : ∃ W0, W0 = (w.alloc (.cells #[.int .u32 (most : Int)] 36)).alloc (.cells #[.int .u32 0, .int .u32 0, Value.slice none 0 0] 62) := ⟨_, rfl⟩
  have hC0 := ((Cf.start h).alloc #[.int .u32 (most : Int)] 36 g0).alloc #[.int .u32 0, .int .u32 0, Value.slice none 0 0] 62 h5
  rw [World.size_alloc, ← hW0] at hC0
  have H0 : Hid _ := hC0
  have hb0 : Below w.heap.size w W0 := by rw [hW0]; exact bx2_bel w _ _
  have hpmost : W0.cell? ⟨w.heap.size, 0, none⟩ = some (.int .u32 (most : Int)) := by
    have := (hC0.c (.tail _ (.head _)) 0).1
    simpa using this
  have HCt : Hid _ := cutReply1 hC0.inb #[.pointer (some ⟨w.heap.size, 0, none⟩)] (repD most l) (repD_n most l) (fun W hW => by
      have hc : CRow W ao cap l := (hcr.later hb0).later hW
      have := reply1 ao cap l most (w.heap.size) W hc hm (cell_later hW hpmost)
      rw [hv]
      exact this)
  clear hC0 hpmost hb0 hcr hv
  go_enter Try.func33, Try.ntmps33
  go_wp2_with fail
  rw [← hW0]
  clear hW0
  refine Calls.mono HCt.out ?_
  rintro e W1 ⟨o, k, d, cu, l', v', ao2, cap2, rfl, hcut, hI, hA, hr, hn⟩
  have HCu : Hid _ := hcut
  have H1 : Hid _ := H0.out.told2 (d' := d) hI hA hr hn
  clear HCt hcut hI hA hr hn H0
  obtain ⟨r0, f0⟩ := H1.out.c (.head _) 0
  obtain ⟨r1, f1⟩ := H1.out.c (.head _) 1
  obtain ⟨r2, f2⟩ := H1.out.c (.head _) 2
  simp at r0 r1 r2
  have HF : Hid _ := (Cf.put (pre := []) (Cf.put (pre := []) (Cf.put (pre := []) H1.out 0 (.int .u32 (o : Int)) (cs' := #[.int .u32 (o : Int), .int .u32 0, Value.slice none 0 0]) rfl) 1 (.int .u32 (k : Int)) (cs' := #[.int .u32 (o : Int), .int .u32 (k : Int), Value.slice none 0 0]) rfl) 2 (.slice ao2 d.length cap2) (cs' := #[.int .u32 (o : Int), .int .u32 (k : Int), .slice ao2 d.length cap2]) rfl)
  clear H1
  go_wp2
  exact bodyPost_ret (results_cell_tmp1 rfl _ _ (w.heap.size + 1) 62 #[.int .u32 (o : Int), .int .u32 (k : Int), .slice ao2 d.length cap2] (0, 0) _ rfl (HF.out.box _ (.head _)).1 Try.underlying62 rfl infoRep) rfl ⟨o, k, d, cu, l', v', ao2, cap2, rfl, HCu.out, HF.out.inb, HF.out.act, HF.out.row, HF.out.rn⟩
end Go.Proofs.Ytckfmpoddmccfaa

namespace Go.Proofs.Ytckfmpoddmccfaa
open Go.RowKit
set_option linter.unusedVariables false
set_option linter.unusedSimpArgs false
set_option maxRecDepth 100000

set_option maxHeartbeats 4000000 in
theorem request1 (ao : Option Addr) (cap : Nat) (l : List Nat) (most : Nat) (ext : Bool) (pmost pext : Nat) (w : World) (h : CRow w ao cap l) (hm : most < 4294967296) (hpmost : w.cell? ⟨pmost, 0, none⟩ = some (.int .u32 (most : Int))) (hpext : w.cell? ⟨pext, 0, none⟩ = some (.bool ext)) :
    Calls Try.prog 77 #[.slice ao l.length cap, .pointer (some ⟨pmost, 0, none⟩), .pointer (some ⟨pext, 0, none⟩)] w fun e w' => ∃ (f : Nat) (t : Nat) (c : Nat) (o : Nat) (k : Nat) (d : List Nat) (n er : Nat) (ao2 : Option Addr) (cap2 : Nat), e = .returned (.tuple #[.agg #[.int .u16 (f : Int), .int .u16 (t : Int), .int .u64 (c : Int), .int .u64 (o : Int), .int .u64 (k : Int), .slice ao2 d.length cap2], .int .i64 (n : Int), .int .i64 (er : Int)]) ∧ reqD most ext l = ((f, t, c, o, k, d), n, er) ∧ Row w w' ao2 cap2 d := by
  have h5 : 60 ≠ 5 := by decide
  obtain ⟨W0, hW0⟩ : ∃ W0, W0 = w.alloc (.cells #[.int .u16 0, .int .u16 0, .int .u64 0, .int .u64 0, .int .u64 0, Value.slice none 0 0] 60) := ⟨_, rfl⟩
  have hB0 := (Bx.start w).alloc #[.int .u16 0, .int .u16 0, .int .u64 0, .int .u64 0, .int .u64 0, Value.slice none 0 0] 60 h5
  rw [← hW0] at hB0
  have H0 : Hid _ := hB0
  have hqmost : W0.cell? ⟨pmost, 0, none⟩ = some (.int .u32 (most : Int)) := cell_later hB0.bel hpmost
  have hrmost := hqmost
  rw [hW0] at hrmost
  have hqext : W0.cell? ⟨pext, 0, none⟩ = some (.bool ext) := cell_later hB0.bel hpext
  have hrext := hqext
  rw [hW0] at hrext
  have HD : Hid (Calls Try.prog 78 #[.slice ao l.length cap, .int .u32 (most : Int), .bool ext] W0 fun e w' => ∃ (f : Nat) (t : Nat) (c : Nat) (o : Nat) (k : Nat) (d : List Nat) (n er : Nat) (ao2 : Option Addr) (cap2 : Nat), e = .returned (.tuple #[.agg #[.int .u16 (f : Int), .int .u16 (t : Int), .int .u64 (c : Int), .int .u64 (o : Int), .int .u64 (k : Int), .slice ao2 d.length cap2], .int .i64 (n : Int), .int .i64 (er : Int)]) ∧ reqD most ext l = ((f, t, c, o, k, d), n, er) ∧ Row W0 w' ao2 cap2 d) := decRequestA ao cap l most ext W0 (h.later hB0.bel) hm
  obtain ⟨ln, hln⟩ : ∃ ln, l.length = ln := ⟨_, rfl⟩
  rw [hln] at HD
  rw [hln]
  clear hB0 h
  go_enter Try.func77, Try.ntmps77
  go_wp2_with fail
  rw [← hW0]
  clear hW0 hrmost hrext
  refine HD.out.mono ?_
  rintro e W1 ⟨f, t, c, o, k, d, n, er, ao2, cap2, rfl, hD, hr⟩
  have HDe : Hid (reqD most ext l = ((f, t, c, o, k, d), n, er)) := hD
  have HR : Hid (∀ x ∈ d, x < 256) := hr.lt
  have H2 : Hid _ := H0.out.told hr
  clear H0 HD hD hr hqmost hpmost hqext hpext
  obtain ⟨r0, f0⟩ := H2.out.c (.head _) 0
  obtain ⟨r1, f1⟩ := H2.out.c (.head _) 1
  obtain ⟨r2, f2⟩ := H2.out.c (.head _) 2
  obtain ⟨r3, f3⟩ := H2.out.c (.head _) 3
  obtain ⟨r4, f4⟩ := H2.out.c (.head _) 4
  obtain ⟨r5, f5⟩ := H2.out.c (.head _) 5
  simp at r0 r1 r2 r3 r4 r5
  have H3 : Hid _ := (Bx.put (pre := []) (Bx.put (pre := []) (Bx.put (pre := []) (Bx.put (pre := []) (Bx.put (pre := []) (Bx.put (pre := []) H2.out 0 (.int .u16 (f : Int)) (cs' := #[.int .u16 (f : Int), .int .u16 0, .int .u64 0, .int .u64 0, .int .u64 0, Value.slice none 0 0]) rfl) 1 (.int .u16 (t : Int)) (cs' := #[.int .u16 (f : Int), .int .u16 (t : Int), .int .u64 0, .int .u64 0, .int .u64 0, Value.slice none 0 0]) rfl) 2 (.int .u64 (c : Int)) (cs' := #[.int .u16 (f : Int), .int .u16 (t : Int), .int .u64 (c : Int), .int .u64 0, .int .u64 0, Value.slice none 0 0]) rfl) 3 (.int .u64 (o : Int)) (cs' := #[.int .u16 (f : Int), .int .u16 (t : Int), .int .u64 (c : Int), .int .u64 (o : Int), .int .u64 0, Value.slice none 0 0]) rfl) 4 (.int .u64 (k : Int)) (cs' := #[.int .u16 (f : Int), .int .u16 (t : Int), .int .u64 (c : Int), .int .u64 (o : Int), .int .u64 (k : Int), Value.slice none 0 0]) rfl) 5 (.slice ao2 d.length cap2) (cs' := #[.int .u16 (f : Int), .int .u16 (t : Int), .int .u64 (c : Int), .int .u64 (o : Int), .int .u64 (k : Int), .slice ao2 d.length cap2]) rfl)
  clear H2
  go_wp2
  exact bodyPost_ret (results_cell_tmp2 rfl _ _ w.heap.size 60 #[.int .u16 (f : Int), .int .u16 (t : Int), .int .u64 (c : Int), .int .u64 (o : Int), .int .u64 (k : Int), .slice ao2 d.length cap2] (0, 0) _ rfl (H3.out.box _ (.head _)).1 Try.underlying60 rfl infoReq) rfl ⟨f, t, c, o, k, d, n, er, ao2, cap2, rfl, HDe.out, H3.out.row, HR.out, H3.out.bel⟩
set_option maxHeartbeats 8000000 in
theorem requestI {w : World} {B b : Nat} {v : Value} {rm ov : Nat} {l : List Nat} (h : Inb w B b v rm ov l) (most : Nat) (ext : Bool) (hm : most < 4294967296) :
    Calls Try.prog 36 #[.pointer (some ⟨b, 0, none⟩), .int .u32 (most : Int), .bool ext] w fun e w' => CutRequest w B b v rm ov l (reqD most ext l) e w' := by
  have h5 : 60 ≠ 5 := by decide
  have g0 : 36 ≠ 5 := by decide
  have g1 : 4 ≠ 5 := by decide
  obtain ⟨ao, cap, hv, hcr⟩ := h.row.crow
  obtain ⟨W0, hW0⟩ : ∃ W0, W0 = ((w.alloc (.cells #[.int .u32 (most : Int)] 36)).alloc (.cells #[.bool ext] 4)).alloc (.cells #[.int .u16 0, .int .u16 0, .int .u64 0, .int .u64 0, .int .u64 0, Value.slice none 0 0] 60) := ⟨_, rfl⟩
  have hC0 := (((Cf.start h).alloc #[.int .u32 (most : Int)] 36 g0).alloc #[.bool ext] 4 g1).alloc #[.int .u16 0, .int .u16 0, .int .u64 0, .int .u64 0, .int .u64 0, Value.slice none 0 0] 60 h5
  rw [World.size_alloc, World.size_alloc, ← hW0] at hC0
  have H0 : Hid _ := hC0
  have hb0 : Below w.heap.size w W0 := by rw [hW0]; exact bx3_bel w _ _ _
  have hpmost : W0.cell? ⟨w.heap.size, 0, none⟩ = some (.int .u32 (most : Int)) := by
    have := (hC0.c (.tail _ (.tail _ (.head _))) 0).1
    simpa using this
  have hpext : W0.cell? ⟨w.heap.size + 1, 0, none⟩ = some (.bool ext) := by
    have := (hC0.c (.tail _ (.head _)) 0).1
    simpa using this
  have HCt : Hid _ := cutRequest hC0.inb #[.pointer (some ⟨w.heap.size, 0, none⟩), .pointer (some ⟨w.heap.size + 1, 0, none⟩)] (reqD most ext l) (reqD_n most ext l) (fun W hW => by
      have hc : CRow W ao cap l := (hcr.later hb0).later hW
      have := request1 ao cap l most ext (w.heap.size) (w.heap.size + 1) W hc hm (cell_later hW hpmost) (cell_later hW hpext)
      rw [hv]
      exact this)
  clear hC0 hpmost hpext hb0 hcr hv
  go_enter Try.func36, Try.ntmps36
  go_wp2_with fail
  rw [← hW0]
  clear hW0
  refine Calls.mono HCt.out ?_
  rintro e W1 ⟨f, t, c, o, k, d, cu, l', v', ao2, cap2, rfl, hcut, hI, hA, hr, hn⟩
  have HCu : Hid _ := hcut
  have H1 : Hid _ := H0.out.told2 (d' := d) hI hA hr hn
  clear HCt hcut hI hA hr hn H0
  obtain ⟨r0, f0⟩ := H1.out.c (.head _) 0
  obtain ⟨r1, f1⟩ := H1.out.c (.head _) 1
  obtain ⟨r2, f2⟩ := H1.out.c (.head _) 2
  obtain ⟨r3, f3⟩ := H1.out.c (.head _) 3
  obtain ⟨r4, f4⟩ := H1.out.c (.head _) 4
  obtain ⟨r5, f5⟩ := H1.out.c (.head _) 5
  simp at r0 r1 r2 r3 r4 r5
  have HF : Hid _ := (Cf.put (pre := []) (Cf.put (pre := []) (Cf.put (pre := []) (Cf.put (pre := []) (Cf.put (pre := []) (Cf.put (pre := []) H1.out 0 (.int .u16 (f : Int)) (cs' := #[.int .u16 (f : Int), .int .u16 0, .int .u64 0, .int .u64 0, .int .u64 0, Value.slice none 0 0]) rfl) 1 (.int .u16 (t : Int)) (cs' := #[.int .u16 (f : Int), .int .u16 (t : Int), .int .u64 0, .int .u64 0, .int .u64 0, Value.slice none 0 0]) rfl) 2 (.int .u64 (c : Int)) (cs' := #[.int .u16 (f : Int), .int .u16 (t : Int), .int .u64 (c : Int), .int .u64 0, .int .u64 0, Value.slice none 0 0]) rfl) 3 (.int .u64 (o : Int)) (cs' := #[.int .u16 (f : Int), .int .u16 (t : Int), .int .u64 (c : Int), .int .u64 (o : Int), .int .u64 0, Value.slice none 0 0]) rfl) 4 (.int .u64 (k : Int)) (cs' := #[.int .u16 (f : Int), .int .u16 (t : Int), .int .u64 (c : Int), .int .u64 (o : Int), .int .u64 (k : Int), Value.slice none 0 0]) rfl) 5 (.slice ao2 d.length cap2) (cs' := #[.int .u16 (f : Int), .int .u16 (t : Int), .int .u64 (c : Int), .int .u64 (o : Int), .int .u64 (k : Int), .slice ao2 d.length cap2]) rfl)
  clear H1
  go_wp2
  exact bodyPost_ret (results_cell_tmp1 rfl _ _ (w.heap.size + 1 + 1) 60 #[.int .u16 (f : Int), .int .u16 (t : Int), .int .u64 (c : Int), .int .u64 (o : Int), .int .u64 (k : Int), .slice ao2 d.length cap2] (0, 0) _ rfl (HF.out.box _ (.head _)).1 Try.underlying60 rfl infoReq) rfl ⟨f, t, c, o, k, d, cu, l', v', ao2, cap2, rfl, HCu.out, HF.out.inb, HF.out.act, HF.out.row, HF.out.rn⟩
end Go.Proofs.Ytckfmpoddmccfaa

namespace Go.Proofs.Ytckfmpoddmccfaa
open Go.RowKit
set_option linter.unusedVariables false
set_option linter.unusedSimpArgs false
set_option maxRecDepth 100000
set_option maxHeartbeats 8000000 in
theorem decAnswer_chunk1 (b off cap : Nat) (l : List Nat) (most : Nat) (w : World) (h : CRow w (some ⟨b, off, none⟩) cap l) (hm : most < 4294967296) (h4 : 4 ≤ l.length) (hmag : vl l 0 4 = cm true) :
    Calls Try.prog 81 #[.slice (some ⟨b, off, none⟩) l.length cap, .int .u32 (most : Int), .bool true] w fun e w' => AnsP (ansD most true l) w e w' := by
  have h5 : 103 ≠ 5 := by decide
  have h6 : 64 ≠ 5 := by decide
  have h7 : 66 ≠ 5 := by decide
  have HE : Hid (ansD most true l = ((true, 0, 0, (chkD most true l).1.1, (chkD most true l).1.2.1, (chkD most true l).1.2.2.1, (chkD most true l).1.2.2.2.1, (chkD most true l).1.2.2.2.2), (chkD most true l).2)) := by show ansD most true l = _; unfold ansD; rw [if_neg (by omega), if_pos hmag]
  have hc1 := h.cap1
  have hc2 := h.cap2
  obtain ⟨W0, hW0⟩ : ∃ W0, W0 = w.alloc (.cells #[.bool false, .int .u32 0, .int .u64 0, .int .u16 0, .int .u16 0, .int .u64 0, .int .u64 0, Value.slice none 0 0] 103) := ⟨_, rfl⟩
  have hB0 := (Bx.start w).alloc #[.bool false, .int .u32 0, .int .u64 0, .int .u16 0, .int .u16 0, .int .u64 0, .int .u64 0, Value.slice none 0 0] 103 h5
  rw [← hW0] at hB0
  have H0 : Hid _ := hB0
  have HN : Hid (Calls Try.prog 111 #[.slice (some ⟨b, off, none⟩) 4 cap] W0 fun e w' => e = .returned (.int .u32 (vl l 0 4 : Nat)) ∧ ∃ q, w' = W0.drewN q) := number_four (h.later hB0.bel) h4
  have HC : Hid (∀ q, CRow (W0.drewN q) (some ⟨b, off, none⟩) cap l) := fun q => (h.later hB0.bel).later (Below.drewQ _ _)
  rw [show vl l 0 4 = 1854547852 from hmag] at HN
  obtain ⟨ln, hln⟩ : ∃ ln, l.length = ln := ⟨_, rfl⟩
  have t1 : ¬ ((ln : Int) < 4) := by omega
  have t2 : decide ((ln : Int) < 4) = false := by simpa using t1
  rw [hln] at hc1
  rw [hln]
  have hln4 : 4 ≤ ln := by omega
  have c4 : (4 : Int) ≤ (cap : Int) := by omega
  have c5 : 4 ≤ cap := by omega
  clear hB0 h
  go_enter Try.func81, Try.ntmps81
  go_wp2_with fail
  rw [← hW0]
  clear hW0
  refine HN.out.mono ?_
  rintro e W1 ⟨rfl, q, rfl⟩
  have H1 : Hid _ := H0.out.drewN q
  have HC1 : Hid _ := HC.out q
  clear HN H0 HC
  generalize W0.drewN q = W1 at *
  have HD : Hid _ := decChunkA (some ⟨b, off, none⟩) cap l most true W1 HC1.out hm
  rw [hln] at HD
  go_wp2_with fail
  refine Calls.mono HD.out ?_
  rintro e W2 ⟨f, t, c, o, d, n, er, ao2, cap2, rfl, hD, hr⟩
  have HDe : Hid (chkD most true l = ((f, t, c, o, d), n, er)) := hD
  have HR : Hid (∀ x ∈ d, x < 256) := hr.lt
  have H2 : Hid _ := (H1.out.told hr).alloc #[.int .u16 (f : Int), .int .u16 (t : Int), .int .u64 (c : Int), .int .u64 (o : Int), .slice ao2 d.length cap2] 64 h6
  clear H1 HD hD hr HC1
  obtain ⟨r0, f0⟩ := H2.out.c (.tail _ (.head _)) 0
  obtain ⟨r1, f1⟩ := H2.out.c (.tail _ (.head _)) 1
  obtain ⟨r2, f2⟩ := H2.out.c (.tail _ (.head _)) 2
  obtain ⟨r3, f3⟩ := H2.out.c (.tail _ (.head _)) 3
  obtain ⟨r4, f4⟩ := H2.out.c (.tail _ (.head _)) 4
  obtain ⟨r5, f5⟩ := H2.out.c (.tail _ (.head _)) 5
  obtain ⟨r6, f6⟩ := H2.out.c (.tail _ (.head _)) 6
  obtain ⟨r7, f7⟩ := H2.out.c (.tail _ (.head _)) 7
  simp at r0 r1 r2 r3 r4 r5 r6 r7
  obtain ⟨s0, g0⟩ := H2.out.c (.head _) 0
  obtain ⟨s1, g1⟩ := H2.out.c (.head _) 1
  obtain ⟨s2, g2⟩ := H2.out.c (.head _) 2
  obtain ⟨s3, g3⟩ := H2.out.c (.head _) 3
  obtain ⟨s4, g4⟩ := H2.out.c (.head _) 4
  simp at s0 s1 s2 s3 s4
  have H3 : Hid _ := (Bx.put (pre := [_]) (Bx.put (pre := [_]) (Bx.put (pre := [_]) (Bx.put (pre := [_]) (Bx.put (pre := [_]) (Bx.put (pre := [_]) (Bx.put (pre := [_]) (Bx.put (pre := [_]) H2.out 0 (.bool true) (cs' := #[.bool true, .int .u32 0, .int .u64 0, .int .u16 0, .int .u16 0, .int .u64 0, .int .u64 0, Value.slice none 0 0]) rfl) 1 (.int .u32 0) (cs' := #[.bool true, .int .u32 0, .int .u64 0, .int .u16 0, .int .u16 0, .int .u64 0, .int .u64 0, Value.slice none 0 0]) rfl) 2 (.int .u64 0) (cs' := #[.bool true, .int .u32 0, .int .u64 0, .int .u16 0, .int .u16 0, .int .u64 0, .int .u64 0, Value.slice none 0 0]) rfl) 3 (.int .u16 (f : Int)) (cs' := #[.bool true, .int .u32 0, .int .u64 0, .int .u16 (f : Int), .int .u16 0, .int .u64 0, .int .u64 0, Value.slice none 0 0]) rfl) 4 (.int .u16 (t : Int)) (cs' := #[.bool true, .int .u32 0, .int .u64 0, .int .u16 (f : Int), .int .u16 (t : Int), .int .u64 0, .int .u64 0, Value.slice none 0 0]) rfl) 5 (.int .u64 (c : Int)) (cs' := #[.bool true, .int .u32 0, .int .u64 0, .int .u16 (f : Int), .int .u16 (t : Int), .int .u64 (c : Int), .int .u64 0, Value.slice none 0 0]) rfl) 6 (.int .u64 (o : Int)) (cs' := #[.bool true, .int .u32 0, .int .u64 0, .int .u16 (f : Int), .int .u16 (t : Int), .int .u64 (c : Int), .int .u64 (o : Int), Value.slice none 0 0]) rfl) 7 (.slice ao2 d.length cap2) (cs' := #[.bool true, .int .u32 0, .int .u64 0, .int .u16 (f : Int), .int .u16 (t : Int), .int .u64 (c : Int), .int .u64 (o : Int), .slice ao2 d.length cap2]) rfl)
  clear H2
  go_wp2
  exact bodyPost_ret (results_cell_tmp2 rfl _ _ w.heap.size 103 #[.bool true, .int .u32 0, .int .u64 0, .int .u16 (f : Int), .int .u16 (t : Int), .int .u64 (c : Int), .int .u64 (o : Int), .slice ao2 d.length cap2] (0, 0) _ rfl (H3.out.box _ (.tail _ (.head _))).1 Try.underlying103 rfl infoAns) rfl ⟨true, 0, 0, f, t, c, o, d, n, er, ao2, cap2, rfl, by rw [HE.out, HDe.out], H3.out.row, HR.out, H3.out.bel⟩
end Go.Proofs.Ytckfmpoddmccfaa

namespace Go.Proofs.Ytckfmpoddmccfaa
open Go.RowKit
set_option linter.unusedVariables false
set_option linter.unusedSimpArgs false
set_option maxRecDepth 100000
set_option maxHeartbeats 8000000 in
theorem decAnswer_chunk0 (b off cap : Nat) (l : List Nat) (most : Nat) (w : World) (h : CRow w (some ⟨b, off, none⟩) cap l) (hm : most < 4294967296) (h4 : 4 ≤ l.length) (hmag : vl l 0 4 = cm false) :
    Calls Try.prog 81 #[.slice (some ⟨b, off, none⟩) l.length cap, .int .u32 (most : Int), .bool false] w fun e w' => AnsP (ansD most false l) w e w' := by
  have h5 : 103 ≠ 5 := by decide
  have h6 : 64 ≠ 5 := by decide
  have h7 : 66 ≠ 5 := by decide
  have HE : Hid (ansD most false l = ((true, 0, 0, (chkD most false l).1.1, (chkD most false l).1.2.1, (chkD most false l).1.2.2.1, (chkD most false l).1.2.2.2.1, (chkD most false l).1.2.2.2.2), (chkD most false l).2)) := by show ansD most false l = _; unfold ansD; rw [if_neg (by omega), if_pos hmag]
  have hc1 := h.cap1
  have hc2 := h.cap2
  obtain ⟨W0, hW0⟩ : ∃ W0, W0 = w.alloc (.cells #[.bool false, .int .u32 0, .int .u64 0, .int .u16 0, .int .u16 0, .int .u64 0, .int .u64 0, Value.slice none 0 0] 103) := ⟨_, rfl⟩
  have hB0 := (Bx.start w).alloc #[.bool false, .int .u32 0, .int .u64 0, .int .u16 0, .int .u16 0, .int .u64 0, .int .u64 0, Value.slice none 0 0] 103 h5
  rw [← hW0] at hB0
  have H0 : Hid _ := hB0
  have HN : Hid (Calls Try.prog 111 #[.slice (some ⟨b, off, none⟩) 4 cap] W0 fun e w' => e = .returned (.int .u32 (vl l 0 4 : Nat)) ∧ ∃ q, w' = W0.drewN q) := number_four (h.later hB0.bel) h4
  have HC : Hid (∀ q, CRow (W0.drewN q) (some ⟨b, off, none⟩) cap l) := fun q => (h.later hB0.bel).later (Below.drewQ _ _)
  rw [show vl l 0 4 = 1720595439 from hmag] at HN
  obtain ⟨ln, hln⟩ : ∃ ln, l.length = ln := ⟨_, rfl⟩
  have t1 : ¬ ((ln : Int) < 4) := by omega
  have t2 : decide ((ln : Int) < 4) = false := by simpa using t1
  rw [hln] at hc1
  rw [hln]
  have hln4 : 4 ≤ ln := by omega
  have c4 : (4 : Int) ≤ (cap : Int) := by omega
  have c5 : 4 ≤ cap := by omega
  clear hB0 h
  go_enter Try.func81, Try.ntmps81
  go_wp2_with fail
  rw [← hW0]
  clear hW0
  refine HN.out.mono ?_
  rintro e W1 ⟨rfl, q, rfl⟩
  have H1 : Hid _ := H0.out.drewN q
  have HC1 : Hid _ := HC.out q
  clear HN H0 HC
  generalize W0.drewN q = W1 at *
  have HD : Hid _ := decChunkA (some ⟨b, off, none⟩) cap l most false W1 HC1.out hm
  rw [hln] at HD
  go_wp2_with fail
  refine Calls.mono HD.out ?_
  rintro e W2 ⟨f, t, c, o, d, n, er, ao2, cap2, rfl, hD, hr⟩
  have HDe : Hid (chkD most false l = ((f, t, c, o, d), n, er)) := hD
  have HR : Hid (∀ x ∈ d, x < 256) := hr.lt
  have H2 : Hid _ := (H1.out.told hr).alloc #[.int .u16 (f : Int), .int .u16 (t : Int), .int .u64 (c : Int), .int .u64 (o : Int), .slice ao2 d.length cap2] 64 h6
  clear H1 HD hD hr HC1
  obtain ⟨r0, f0⟩ := H2.out.c (.tail _ (.head _)) 0
  obtain ⟨r1, f1⟩ := H2.out.c (.tail _ (.head _)) 1
  obtain ⟨r2, f2⟩ := H2.out.c (.tail _ (.head _)) 2
  obtain ⟨r3, f3⟩ := H2.out.c (.tail _ (.head _)) 3
  obtain ⟨r4, f4⟩ := H2.out.c (.tail _ (.head _)) 4
  obtain ⟨r5, f5⟩ := H2.out.c (.tail _ (.head _)) 5
  obtain ⟨r6, f6⟩ := H2.out.c (.tail _ (.head _)) 6
  obtain ⟨r7, f7⟩ := H2.out.c (.tail _ (.head _)) 7
  simp at r0 r1 r2 r3 r4 r5 r6 r7
  obtain ⟨s0, g0⟩ := H2.out.c (.head _) 0
  obtain ⟨s1, g1⟩ := H2.out.c (.head _) 1
  obtain ⟨s2, g2⟩ := H2.out.c (.head _) 2
  obtain ⟨s3, g3⟩ := H2.out.c (.head _) 3
  obtain ⟨s4, g4⟩ := H2.out.c (.head _) 4
  simp at s0 s1 s2 s3 s4
  have H3 : Hid _ := (Bx.put (pre := [_]) (Bx.put (pre := [_]) (Bx.put (pre := [_]) (Bx.put (pre := [_]) (Bx.put (pre := [_]) (Bx.put (pre := [_]) (Bx.put (pre := [_]) (Bx.put (pre := [_]) H2.out 0 (.bool true) (cs' := #[.bool true, .int .u32 0, .int .u64 0, .int .u16 0, .int .u16 0, .int .u64 0, .int .u64 0, Value.slice none 0 0]) rfl) 1 (.int .u32 0) (cs' := #[.bool true, .int .u32 0, .int .u64 0, .int .u16 0, .int .u16 0, .int .u64 0, .int .u64 0, Value.slice none 0 0]) rfl) 2 (.int .u64 0) (cs' := #[.bool true, .int .u32 0, .int .u64 0, .int .u16 0, .int .u16 0, .int .u64 0, .int .u64 0, Value.slice none 0 0]) rfl) 3 (.int .u16 (f : Int)) (cs' := #[.bool true, .int .u32 0, .int .u64 0, .int .u16 (f : Int), .int .u16 0, .int .u64 0, .int .u64 0, Value.slice none 0 0]) rfl) 4 (.int .u16 (t : Int)) (cs' := #[.bool true, .int .u32 0, .int .u64 0, .int .u16 (f : Int), .int .u16 (t : Int), .int .u64 0, .int .u64 0, Value.slice none 0 0]) rfl) 5 (.int .u64 (c : Int)) (cs' := #[.bool true, .int .u32 0, .int .u64 0, .int .u16 (f : Int), .int .u16 (t : Int), .int .u64 (c : Int), .int .u64 0, Value.slice none 0 0]) rfl) 6 (.int .u64 (o : Int)) (cs' := #[.bool true, .int .u32 0, .int .u64 0, .int .u16 (f : Int), .int .u16 (t : Int), .int .u64 (c : Int), .int .u64 (o : Int), Value.slice none 0 0]) rfl) 7 (.slice ao2 d.length cap2) (cs' := #[.bool true, .int .u32 0, .int .u64 0, .int .u16 (f : Int), .int .u16 (t : Int), .int .u64 (c : Int), .int .u64 (o : Int), .slice ao2 d.length cap2]) rfl)
  clear H2
  go_wp2
  exact bodyPost_ret (results_cell_tmp2 rfl _ _ w.heap.size 103 #[.bool true, .int .u32 0, .int .u64 0, .int .u16 (f : Int), .int .u16 (t : Int), .int .u64 (c : Int), .int .u64 (o : Int), .slice ao2 d.length cap2] (0, 0) _ rfl (H3.out.box _ (.tail _ (.head _))).1 Try.underlying103 rfl infoAns) rfl ⟨true, 0, 0, f, t, c, o, d, n, er, ao2, cap2, rfl, by rw [HE.out, HDe.out], H3.out.row, HR.out, H3.out.bel⟩
end Go.Proofs.Ytckfmpoddmccfaa

namespace Go.Proofs.Ytckfmpoddmccfaa
open Go.RowKit
set_option linter.unusedVariables false
set_option linter.unusedSimpArgs false
set_option maxRecDepth 100000
set_option maxHeartbeats 8000000 in
theorem decAnswer_simple (b off cap : Nat) (l : List Nat) (most : Nat) (w : World) (h : CRow w (some ⟨b, off, none⟩) cap l) (hm : most < 4294967296) (h4 : 4 ≤ l.length) (hmag : vl l 0 4 = mSimple) :
    Calls Try.prog 81 #[.slice (some ⟨b, off, none⟩) l.length cap, .int .u32 (most : Int), .bool false] w fun e w' => AnsP (ansD most false l) w e w' := by
  have h5 : 103 ≠ 5 := by decide
  have h6 : 64 ≠ 5 := by decide
  have h7 : 66 ≠ 5 := by decide
  have HE : Hid (ansD most false l = ((false, (simD l).1.1, (simD l).1.2, 0, 0, 0, 0, []), (simD l).2)) := by show ansD most false l = _; unfold ansD; rw [if_neg (by omega), if_neg (by rw [hmag]; decide), if_pos ⟨rfl, hmag⟩]
  have hc1 := h.cap1
  have hc2 := h.cap2
  obtain ⟨W0, hW0⟩ : ∃ W0, W0 = w.alloc (.cells #[.bool false, .int .u32 0, .int .u64 0, .int .u16 0, .int .u16 0, .int .u64 0, .int .u64 0, Value.slice none 0 0] 103) := ⟨_, rfl⟩
  have hB0 := (Bx.start w).alloc #[.bool false, .int .u32 0, .int .u64 0, .int .u16 0, .int .u16 0, .int .u64 0, .int .u64 0, Value.slice none 0 0] 103 h5
  rw [← hW0] at hB0
  have H0 : Hid _ := hB0
  have HN : Hid (Calls Try.prog 111 #[.slice (some ⟨b, off, none⟩) 4 cap] W0 fun e w' => e = .returned (.int .u32 (vl l 0 4 : Nat)) ∧ ∃ q, w' = W0.drewN q) := number_four (h.later hB0.bel) h4
  have HC : Hid (∀ q, CRow (W0.drewN q) (some ⟨b, off, none⟩) cap l) := fun q => (h.later hB0.bel).later (Below.drewQ _ _)
  rw [show vl l 0 4 = 1732535960 from hmag] at HN
  obtain ⟨ln, hln⟩ : ∃ ln, l.length = ln := ⟨_, rfl⟩
  have t1 : ¬ ((ln : Int) < 4) := by omega
  have t2 : decide ((ln : Int) < 4) = false := by simpa using t1
  rw [hln] at hc1
  rw [hln]
  have hln4 : 4 ≤ ln := by omega
  have c4 : (4 : Int) ≤ (cap : Int) := by omega
  have c5 : 4 ≤ cap := by omega
  clear hB0 h
  go_enter Try.func81, Try.ntmps81
  go_wp2_with fail
  rw [← hW0]
  clear hW0
  refine HN.out.mono ?_
  rintro e W1 ⟨rfl, q, rfl⟩
  have H1 : Hid _ := H0.out.drewN q
  have HC1 : Hid _ := HC.out q
  clear HN H0 HC
  generalize W0.drewN q = W1 at *
  have HD : Hid _ := decSimpleA (some ⟨b, off, none⟩) cap l W1 HC1.out
  rw [hln] at HD
  go_wp2_with fail
  refine Calls.mono HD.out ?_
  rintro e W2 ⟨sc, sk, n, er, rfl, hD, hr⟩
  have HDe : Hid (simD l = ((sc, sk), n, er)) := hD
  have H2 : Hid _ := (H1.out.later hr).alloc #[.int .u32 (sc : Int), .int .u64 (sk : Int)] 66 h7
  clear H1 HD hD hr HC1
  obtain ⟨r0, f0⟩ := H2.out.c (.tail _ (.head _)) 0
  obtain ⟨r1, f1⟩ := H2.out.c (.tail _ (.head _)) 1
  obtain ⟨r2, f2⟩ := H2.out.c (.tail _ (.head _)) 2
  obtain ⟨r3, f3⟩ := H2.out.c (.tail _ (.head _)) 3
  obtain ⟨r4, f4⟩ := H2.out.c (.tail _ (.head _)) 4
  obtain ⟨r5, f5⟩ := H2.out.c (.tail _ (.head _)) 5
  obtain ⟨r6, f6⟩ := H2.out.c (.tail _ (.head _)) 6
  obtain ⟨r7, f7⟩ := H2.out.c (.tail _ (.head _)) 7
  simp at r0 r1 r2 r3 r4 r5 r6 r7
  obtain ⟨s0, g0⟩ := H2.out.c (.head _) 0
  obtain ⟨s1, g1⟩ := H2.out.c (.head _) 1
  simp at s0 s1
  have H3 : Hid _ := (Bx.put (pre := [_]) (Bx.put (pre := [_]) (Bx.put (pre := [_]) (Bx.put (pre := [_]) (Bx.put (pre := [_]) (Bx.put (pre := [_]) (Bx.put (pre := [_]) (Bx.put (pre := [_]) H2.out 0 (.bool false) (cs' := #[.bool false, .int .u32 0, .int .u64 0, .int .u16 0, .int .u16 0, .int .u64 0, .int .u64 0, Value.slice none 0 0]) rfl) 1 (.int .u32 (sc : Int)) (cs' := #[.bool false, .int .u32 (sc : Int), .int .u64 0, .int .u16 0, .int .u16 0, .int .u64 0, .int .u64 0, Value.slice none 0 0]) rfl) 2 (.int .u64 (sk : Int)) (cs' := #[.bool false, .int .u32 (sc : Int), .int .u64 (sk : Int), .int .u16 0, .int .u16 0, .int .u64 0, .int .u64 0, Value.slice none 0 0]) rfl) 3 (.int .u16 0) (cs' := #[.bool false, .int .u32 (sc : Int), .int .u64 (sk : Int), .int .u16 0, .int .u16 0, .int .u64 0, .int .u64 0, Value.slice none 0 0]) rfl) 4 (.int .u16 0) (cs' := #[.bool false, .int .u32 (sc : Int), .int .u64 (sk : Int), .int .u16 0, .int .u16 0, .int .u64 0, .int .u64 0, Value.slice none 0 0]) rfl) 5 (.int .u64 0) (cs' := #[.bool false, .int .u32 (sc : Int), .int .u64 (sk : Int), .int .u16 0, .int .u16 0, .int .u64 0, .int .u64 0, Value.slice none 0 0]) rfl) 6 (.int .u64 0) (cs' := #[.bool false, .int .u32 (sc : Int), .int .u64 (sk : Int), .int .u16 0, .int .u16 0, .int .u64 0, .int .u64 0, Value.slice none 0 0]) rfl) 7 (Value.slice none 0 0) (cs' := #[.bool false, .int .u32 (sc : Int), .int .u64 (sk : Int), .int .u16 0, .int .u16 0, .int .u64 0, .int .u64 0, Value.slice none 0 0]) rfl)
  clear H2
  go_wp2
  exact bodyPost_ret (results_cell_tmp2 rfl _ _ w.heap.size 103 #[.bool false, .int .u32 (sc : Int), .int .u64 (sk : Int), .int .u16 0, .int .u16 0, .int .u64 0, .int .u64 0, Value.slice none 0 0] (0, 0) _ rfl (H3.out.box _ (.tail _ (.head _))).1 Try.underlying103 rfl infoAns) rfl ⟨false, sc, sk, 0, 0, 0, 0, [], n, er, none, 0, rfl, by rw [HE.out, HDe.out], H3.out.row, by simp, H3.out.bel⟩
end Go.Proofs.Ytckfmpoddmccfaa

namespace Go.Proofs.Ytckfmpoddmccfaa
open Go.RowKit
set_option linter.unusedVariables false
set_option linter.unusedSimpArgs false
set_option maxRecDepth 100000
set_option maxHeartbeats 8000000 in
theorem decAnswer_bad1 (b off cap : Nat) (l : List Nat) (most : Nat) (w : World) (h : CRow w (some ⟨b, off, none⟩) cap l) (hm : most < 4294967296) (h4 : 4 ≤ l.length) (hno : ¬ vl l 0 4 = cm true) :
    Calls Try.prog 81 #[.slice (some ⟨b, off, none⟩) l.length cap, .int .u32 (most : Int), .bool true] w fun e w' => AnsP (ansD most true l) w e w' := by
  have h5 : 103 ≠ 5 := by decide
  have h6 : 64 ≠ 5 := by decide
  have h7 : 66 ≠ 5 := by decide
  have HE : Hid (ansD most true l = (ansZ, 0, 80)) := by show ansD most true l = _; unfold ansD; rw [if_neg (by omega), if_neg hno, if_neg (by simp)]
  have hc1 := h.cap1
  have hc2 := h.cap2
  obtain ⟨W0, hW0⟩ : ∃ W0, W0 = w.alloc (.cells #[.bool false, .int .u32 0, .int .u64 0, .int .u16 0, .int .u16 0, .int .u64 0, .int .u64 0, Value.slice none 0 0] 103) := ⟨_, rfl⟩
  have hB0 := (Bx.start w).alloc #[.bool false, .int .u32 0, .int .u64 0, .int .u16 0, .int .u16 0, .int .u64 0, .int .u64 0, Value.slice none 0 0] 103 h5
  rw [← hW0] at hB0
  have H0 : Hid _ := hB0
  have HN : Hid (Calls Try.prog 111 #[.slice (some ⟨b, off, none⟩) 4 cap] W0 fun e w' => e = .returned (.int .u32 (vl l 0 4 : Nat)) ∧ ∃ q, w' = W0.drewN q) := number_four (h.later hB0.bel) h4
  have HC : Hid (∀ q, CRow (W0.drewN q) (some ⟨b, off, none⟩) cap l) := fun q => (h.later hB0.bel).later (Below.drewQ _ _)
  obtain ⟨mg, hmg⟩ : ∃ mg, vl l 0 4 = mg := ⟨_, rfl⟩
  rw [hmg] at HN hno
  have u0 : ¬ ((mg : Int) = 1854547852) := by intro e; exact hno (show mg = 1854547852 by omega)
  have v0 : decide ((mg : Int) = 1854547852) = false := by simpa using u0
  have y0 : ((mg : Int) == 1854547852) = false := by simpa using u0
  obtain ⟨ln, hln⟩ : ∃ ln, l.length = ln := ⟨_, rfl⟩
  have t1 : ¬ ((ln : Int) < 4) := by omega
  have t2 : decide ((ln : Int) < 4) = false := by simpa using t1
  rw [hln] at hc1
  rw [hln]
  have hln4 : 4 ≤ ln := by omega
  have c4 : (4 : Int) ≤ (cap : Int) := by omega
  have c5 : 4 ≤ cap := by omega
  clear hB0 h
  go_enter Try.func81, Try.ntmps81
  go_wp2_with fail
  rw [← hW0]
  clear hW0
  refine HN.out.mono ?_
  rintro e W1 ⟨rfl, q, rfl⟩
  have H1 : Hid _ := H0.out.drewN q
  have HC1 : Hid _ := HC.out q
  clear HN H0 HC
  generalize W0.drewN q = W1 at *
  obtain ⟨r0, f0⟩ := H1.out.c (.head _) 0
  obtain ⟨r1, f1⟩ := H1.out.c (.head _) 1
  obtain ⟨r2, f2⟩ := H1.out.c (.head _) 2
  obtain ⟨r3, f3⟩ := H1.out.c (.head _) 3
  obtain ⟨r4, f4⟩ := H1.out.c (.head _) 4
  obtain ⟨r5, f5⟩ := H1.out.c (.head _) 5
  obtain ⟨r6, f6⟩ := H1.out.c (.head _) 6
  obtain ⟨r7, f7⟩ := H1.out.c (.head _) 7
  simp at r0 r1 r2 r3 r4 r5 r6 r7
  have H3 : Hid _ := (Bx.put (pre := []) (Bx.put (pre := []) (Bx.put (pre := []) (Bx.put (pre := []) (Bx.put (pre := []) (Bx.put (pre := []) (Bx.put (pre := []) (Bx.put (pre := []) H1.out 0 (.bool false) (cs' := #[.bool false, .int .u32 0, .int .u64 0, .int .u16 0, .int .u16 0, .int .u64 0, .int .u64 0, Value.slice none 0 0]) rfl) 1 (.int .u32 0) (cs' := #[.bool false, .int .u32 0, .int .u64 0, .int .u16 0, .int .u16 0, .int .u64 0, .int .u64 0, Value.slice none 0 0]) rfl) 2 (.int .u64 0) (cs' := #[.bool false, .int .u32 0, .int .u64 0, .int .u16 0, .int .u16 0, .int .u64 0, .int .u64 0, Value.slice none 0 0]) rfl) 3 (.int .u16 0) (cs' := #[.bool false, .int .u32 0, .int .u64 0, .int .u16 0, .int .u16 0, .int .u64 0, .int .u64 0, Value.slice none 0 0]) rfl) 4 (.int .u16 0) (cs' := #[.bool false, .int .u32 0, .int .u64 0, .int .u16 0, .int .u16 0, .int .u64 0, .int .u64 0, Value.slice none 0 0]) rfl) 5 (.int .u64 0) (cs' := #[.bool false, .int .u32 0, .int .u64 0, .int .u16 0, .int .u16 0, .int .u64 0, .int .u64 0, Value.slice none 0 0]) rfl) 6 (.int .u64 0) (cs' := #[.bool false, .int .u32 0, .int .u64 0, .int .u16 0, .int .u16 0, .int .u64 0, .int .u64 0, Value.slice none 0 0]) rfl) 7 (Value.slice none 0 0) (cs' := #[.bool false, .int .u32 0, .int .u64 0, .int .u16 0, .int .u16 0, .int .u64 0, .int .u64 0, Value.slice none 0 0]) rfl)
  clear H1
  go_wp2
  exact bodyPost_ret (results_cell_tmp2 rfl _ _ w.heap.size 103 #[.bool false, .int .u32 0, .int .u64 0, .int .u16 0, .int .u16 0, .int .u64 0, .int .u64 0, Value.slice none 0 0] (0, 0) _ rfl (H3.out.box _ (.head _)).1 Try.underlying103 rfl infoAns) rfl ⟨false, 0, 0, 0, 0, 0, 0, [], 0, 80, none, 0, rfl, HE.out, H3.out.row, by simp, H3.out.bel⟩
end Go.Proofs.Ytckfmpoddmccfaa

namespace Go.Proofs.Ytckfmpoddmccfaa
open Go.RowKit
set_option linter.unusedVariables false
set_option linter.unusedSimpArgs false
set_option maxRecDepth 100000
set_option maxHeartbeats 8000000 in
theorem decAnswer_bad0 (b off cap : Nat) (l : List Nat) (most : Nat) (w : World) (h : CRow w (some ⟨b, off, none⟩) cap l) (hm : most < 4294967296) (h4 : 4 ≤ l.length) (hno : ¬ vl l 0 4 = cm false) (hns : ¬ vl l 0 4 = mSimple) :
    Calls Try.prog 81 #[.slice (some ⟨b, off, none⟩) l.length cap, .int .u32 (most : Int), .bool false] w fun e w' => AnsP (ansD most false l) w e w' := by
  have h5 : 103 ≠ 5 := by decide
  have h6 : 64 ≠ 5 := by decide
  have h7 : 66 ≠ 5 := by decide
  have HE : Hid (ansD most false l = (ansZ, 0, 80)) := by show ansD most false l = _; unfold ansD; rw [if_neg (by omega), if_neg hno, if_neg (by simp [hns])]
  have hc1 := h.cap1
  have hc2 := h.cap2
  obtain ⟨W0, hW0⟩ : ∃ W0, W0 = w.alloc (.cells #[.bool false, .int .u32 0, .int .u64 0, .int .u16 0, .int .u16 0, .int .u64 0, .int .u64 0, Value.slice none 0 0] 103) := ⟨_, rfl⟩
  have hB0 := (Bx.start w).alloc #[.bool false, .int .u32 0, .int .u64 0, .int .u16 0, .int .u16 0, .int .u64 0, .int .u64 0, Value.slice none 0 0] 103 h5
  rw [← hW0] at hB0
  have H0 : Hid _ := hB0
  have HN : Hid (Calls Try.prog 111 #[.slice (some ⟨b, off, none⟩) 4 cap] W0 fun e w' => e = .returned (.int .u32 (vl l 0 4 : Nat)) ∧ ∃ q, w' = W0.drewN q) := number_four (h.later hB0.bel) h4
  have HC : Hid (∀ q, CRow (W0.drewN q) (some ⟨b, off, none⟩) cap l) := fun q => (h.later hB0.bel).later (Below.drewQ _ _)
  obtain ⟨mg, hmg⟩ : ∃ mg, vl l 0 4 = mg := ⟨_, rfl⟩
  rw [hmg] at HN hno hns
  have u0 : ¬ ((mg : Int) = 1720595439) := by intro e; exact hno (show mg = 1720595439 by omega)
  have v0 : decide ((mg : Int) = 1720595439) = false := by simpa using u0
  have y0 : ((mg : Int) == 1720595439) = false := by simpa using u0
  have u1 : ¬ ((mg : Int) = 1732535960) := by intro e; exact hns (show mg = 1732535960 by omega)
  have v1 : decide ((mg : Int) = 1732535960) = false := by simpa using u1
  have y1 : ((mg : Int) == 1732535960) = false := by simpa using u1
  obtain ⟨ln, hln⟩ : ∃ ln, l.length = ln := ⟨_, rfl⟩
  have t1 : ¬ ((ln : Int) < 4) := by omega
  have t2 : decide ((ln : Int) < 4) = false := by simpa using t1
  rw [hln] at hc1
  rw [hln]
  have hln4 : 4 ≤ ln := by omega
  have c4 : (4 : Int) ≤ (cap : Int) := by omega
  have c5 : 4 ≤ cap := by omega
  clear hB0 h
  go_enter Try.func81, Try.ntmps81
  go_wp2_with fail
  rw [← hW0]
  clear hW0
  refine HN.out.mono ?_
  rintro e W1 ⟨rfl, q, rfl⟩
  have H1 : Hid _ := H0.out.drewN q
  have HC1 : Hid _ := HC.out q
  clear HN H0 HC
  generalize W0.drewN q = W1 at *
  obtain ⟨r0, f0⟩ := H1.out.c (.head _) 0
  obtain ⟨r1, f1⟩ := H1.out.c (.head _) 1
  obtain ⟨r2, f2⟩ := H1.out.c (.head _) 2
  obtain ⟨r3, f3⟩ := H1.out.c (.head _) 3
  obtain ⟨r4, f4⟩ := H1.out.c (.head _) 4
  obtain ⟨r5, f5⟩ := H1.out.c (.head _) 5
  obtain ⟨r6, f6⟩ := H1.out.c (.head _) 6
  obtain ⟨r7, f7⟩ := H1.out.c (.head _) 7
  simp at r0 r1 r2 r3 r4 r5 r6 r7
  have H3 : Hid _ := (Bx.put (pre := []) (Bx.put (pre := []) (Bx.put (pre := []) (Bx.put (pre := []) (Bx.put (pre := []) (Bx.put (pre := []) (Bx.put (pre := []) (Bx.put (pre := []) H1.out 0 (.bool false) (cs' := #[.bool false, .int .u32 0, .int .u64 0, .int .u16 0, .int .u16 0, .int .u64 0, .int .u64 0, Value.slice none 0 0]) rfl) 1 (.int .u32 0) (cs' := #[.bool false, .int .u32 0, .int .u64 0, .int .u16 0, .int .u16 0, .int .u64 0, .int .u64 0, Value.slice none 0 0]) rfl) 2 (.int .u64 0) (cs' := #[.bool false, .int .u32 0, .int .u64 0, .int .u16 0, .int .u16 0, .int .u64 0, .int .u64 0, Value.slice none 0 0]) rfl) 3 (.int .u16 0) (cs' := #[.bool false, .int .u32 0, .int .u64 0, .int .u16 0, .int .u16 0, .int .u64 0, .int .u64 0, Value.slice none 0 0]) rfl) 4 (.int .u16 0) (cs' := #[.bool false, .int .u32 0, .int .u64 0, .int .u16 0, .int .u16 0, .int .u64 0, .int .u64 0, Value.slice none 0 0]) rfl) 5 (.int .u64 0) (cs' := #[.bool false, .int .u32 0, .int .u64 0, .int .u16 0, .int .u16 0, .int .u64 0, .int .u64 0, Value.slice none 0 0]) rfl) 6 (.int .u64 0) (cs' := #[.bool false, .int .u32 0, .int .u64 0, .int .u16 0, .int .u16 0, .int .u64 0, .int .u64 0, Value.slice none 0 0]) rfl) 7 (Value.slice none 0 0) (cs' := #[.bool false, .int .u32 0, .int .u64 0, .int .u16 0, .int .u16 0, .int .u64 0, .int .u64 0, Value.slice none 0 0]) rfl)
  clear H1
  go_wp2
  exact bodyPost_ret (results_cell_tmp2 rfl _ _ w.heap.size 103 #[.bool false, .int .u32 0, .int .u64 0, .int .u16 0, .int .u16 0, .int .u64 0, .int .u64 0, Value.slice none 0 0] (0, 0) _ rfl (H3.out.box _ (.head _)).1 Try.underlying103 rfl infoAns) rfl ⟨false, 0, 0, 0, 0, 0, 0, [], 0, 80, none, 0, rfl, HE.out, H3.out.row, by simp, H3.out.bel⟩
end Go.Proofs.Ytckfmpoddmccfaa

namespace Go.Proofs.Ytckfmpoddmccfaa
open Go.RowKit
set_option linter.unusedVariables false
set_option maxRecDepth 100000
theorem decAnswerA (ao : Option Addr) (cap : Nat) (l : List Nat) (most : Nat) (ext : Bool) (w : World) (h : CRow w ao cap l) (hm : most < 4294967296) :
    Calls Try.prog 81 #[.slice ao l.length cap, .int .u32 (most : Int), .bool ext] w fun e w' => AnsP (ansD most ext l) w e w' := by
  by_cases h4 : l.length < 4
  · exact decAnswer_short ao cap l.length l most ext w rfl h4
  have hne : l ≠ [] := by intro e; rw [e] at h4; simp at h4
  obtain ⟨b, off, rfl, _⟩ := h.row.at_ hne
  cases ext with
  | true =>
    by_cases hmag : vl l 0 4 = cm true
    · exact decAnswer_chunk1 b off cap l most w h hm (by omega) hmag
    · exact decAnswer_bad1 b off cap l most w h hm (by omega) hmag
  | false =>
    by_cases hmag : vl l 0 4 = cm false
    · exact decAnswer_chunk0 b off cap l most w h hm (by omega) hmag
    by_cases hs : vl l 0 4 = mSimple
    · exact decAnswer_simple b off cap l most w h hm (by omega) hs
    · exact decAnswer_bad0 b off cap l most w h hm (by omega) hmag hs
end Go.Proofs.Ytckfmpoddmccfaa

namespace Go.Proofs.Ytckfmpoddmccfaa
open Go.RowKit
set_option linter.unusedVariables false
set_option linter.unusedSimpArgs false
set_option maxRecDepth 100000

set_option maxHeartbeats 4000000 in
theorem answer1 (ao : Option Addr) (cap : Nat) (l : List Nat) (most : Nat) (ext : Bool) (pmost pext : Nat) (w : World) (h : CRow w ao cap l) (hm : most < 4294967296) (hpmost : w.cell? ⟨pmost, 0, none⟩ = some (.int .u32 (most : Int))) (hpext : w.cell? ⟨pext, 0, none⟩ = some (.bool ext)) :
    Calls Try.prog 80 #[.slice ao l.length cap, .pointer (some ⟨pmost, 0, none⟩), .pointer (some ⟨pext, 0, none⟩)] w fun e w' => ∃ (st : Bool) (sc : Nat) (sk : Nat) (f : Nat) (t : Nat) (c : Nat) (o : Nat) (d : List Nat) (n er : Nat) (ao2 : Option Addr) (cap2 : Nat), e = .returned (.tuple #[.agg #[.bool st, .int .u32 (sc : Int), .int .u64 (sk : Int), .int .u16 (f : Int), .int .u16 (t : Int), .int .u64 (c : Int), .int .u64 (o : Int), .slice ao2 d.length cap2], .int .i64 (n : Int), .int .i64 (er : Int)]) ∧ ansD most ext l = ((st, sc, sk, f, t, c, o, d), n, er) ∧ Row w w' ao2 cap2 d := by
  have h5 : 103 ≠ 5 := by decide
  obtain ⟨W0, hW0⟩ : ∃ W0, W0 = w.alloc (.cells #[.bool false, .int .u32 0, .int .u64 0, .int .u16 0, .int .u16 0, .int .u64 0, .int .u64 0, Value.slice none 0 0] 103) := ⟨_, rfl⟩
  have hB0 := (Bx.start w).alloc #[.bool false, .int .u32 0, .int .u64 0, .int .u16 0, .int .u16 0, .int .u64 0, .int .u64 0, Value.slice none 0 0] 103 h5
  rw [← hW0] at hB0
  have H0 : Hid _ := hB0
  have hqmost : W0.cell? ⟨pmost, 0, none⟩ = some (.int .u32 (most : Int)) := cell_later hB0.bel hpmost
  have hrmost := hqmost
  rw [hW0] at hrmost
  have hqext : W0.cell? ⟨pext, 0, none⟩ = some (.bool ext) := cell_later hB0.bel hpext
  have hrext := hqext
  rw [hW0] at hrext
  have HD : Hid (Calls Try.prog 81 #[.slice ao l.length cap, .int .u32 (most : Int), .bool ext] W0 fun e w' => ∃ (st : Bool) (sc : Nat) (sk : Nat) (f : Nat) (t : Nat) (c : Nat) (o : Nat) (d : List Nat) (n er : Nat) (ao2 : Option Addr) (cap2 : Nat), e = .returned (.tuple #[.agg #[.bool st, .int .u32 (sc : Int), .int .u64 (sk : Int), .int .u16 (f : Int), .int .u16 (t : Int), .int .u64 (c : Int), .int .u64 (o : Int), .slice ao2 d.length cap2], .int .i64 (n : Int), .int .i64 (er : Int)]) ∧ ansD most ext l = ((st, sc, sk, f, t, c, o, d), n, er) ∧ Row W0 w' ao2 cap2 d) := decAnswerA ao cap l most ext W0 (h.later hB0.bel) hm
  obtain ⟨ln, hln⟩ : ∃ ln, l.length = ln := ⟨_, rfl⟩
  rw [hln] at HD
  rw [hln]
  clear hB0 h
  go_enter Try.func80, Try.ntmps80
  go_wp2_with fail
  rw [← hW0]
  clear hW0 hrmost hrext
  refine HD.out.mono ?_
  rintro e W1 ⟨st, sc, sk, f, t, c, o, d, n, er, ao2, cap2, rfl, hD, hr⟩
  have HDe : Hid (ansD most ext l = ((st, sc, sk, f, t, c, o, d), n, er)) := hD
  have HR : Hid (∀ x ∈ d, x < 256) := hr.lt
  have H2 : Hid _ := H0.out.told hr
  clear H0 HD hD hr hqmost hpmost hqext hpext
  obtain ⟨r0, f0⟩ := H2.out.c (.head _) 0
  obtain ⟨r1, f1⟩ := H2.out.c (.head _) 1
  obtain ⟨r2, f2⟩ := H2.out.c (.head _) 2
  obtain ⟨r3, f3⟩ := H2.out.c (.head _) 3
  obtain ⟨r4, f4⟩ := H2.out.c (.head _) 4
  obtain ⟨r5, f5⟩ := H2.out.c (.head _) 5
  obtain ⟨r6, f6⟩ := H2.out.c (.head _) 6
  obtain ⟨r7, f7⟩ := H2.out.c (.head _) 7
  simp at r0 r1 r2 r3 r4 r5 r6 r7
  have H3 : Hid _ := (Bx.put (pre := []) (Bx.put (pre := []) (Bx.put (pre := []) (Bx.put (pre := []) (Bx.put (pre := []) (Bx.put (pre := []) (Bx.put (pre := []) (Bx.put (pre := []) H2.out 0 (.bool st) (cs' := #[.bool st, .int .u32 0, .int .u64 0, .int .u16 0, .int .u16 0, .int .u64 0, .int .u64 0, Value.slice none 0 0]) rfl) 1 (.int .u32 (sc : Int)) (cs' := #[.bool st, .int .u32 (sc : Int), .int .u64 0, .int .u16 0, .int .u16 0, .int .u64 0, .int .u64 0, Value.slice none 0 0]) rfl) 2 (.int .u64 (sk : Int)) (cs' := #[.bool st, .int .u32 (sc : Int), .int .u64 (sk : Int), .int .u16 0, .int .u16 0, .int .u64 0, .int .u64 0, Value.slice none 0 0]) rfl) 3 (.int .u16 (f : Int)) (cs' := #[.bool st, .int .u32 (sc : Int), .int .u64 (sk : Int), .int .u16 (f : Int), .int .u16 0, .int .u64 0, .int .u64 0, Value.slice none 0 0]) rfl) 4 (.int .u16 (t : Int)) (cs' := #[.bool st, .int .u32 (sc : Int), .int .u64 (sk : Int), .int .u16 (f : Int), .int .u16 (t : Int), .int .u64 0, .int .u64 0, Value.slice none 0 0]) rfl) 5 (.int .u64 (c : Int)) (cs' := #[.bool st, .int .u32 (sc : Int), .int .u64 (sk : Int), .int .u16 (f : Int), .int .u16 (t : Int), .int .u64 (c : Int), .int .u64 0, Value.slice none 0 0]) rfl) 6 (.int .u64 (o : Int)) (cs' := #[.bool st, .int .u32 (sc : Int), .int .u64 (sk : Int), .int .u16 (f : Int), .int .u16 (t : Int), .int .u64 (c : Int), .int .u64 (o : Int), Value.slice none 0 0]) rfl) 7 (.slice ao2 d.length cap2) (cs' := #[.bool st, .int .u32 (sc : Int), .int .u64 (sk : Int), .int .u16 (f : Int), .int .u16 (t : Int), .int .u64 (c : Int), .int .u64 (o : Int), .slice ao2 d.length cap2]) rfl)
  clear H2
  go_wp2
  exact bodyPost_ret (results_cell_tmp2 rfl _ _ w.heap.size 103 #[.bool st, .int .u32 (sc : Int), .int .u64 (sk : Int), .int .u16 (f : Int), .int .u16 (t : Int), .int .u64 (c : Int), .int .u64 (o : Int), .slice ao2 d.length cap2] (0, 0) _ rfl (H3.out.box _ (.head _)).1 Try.underlying103 rfl infoAns) rfl ⟨st, sc, sk, f, t, c, o, d, n, er, ao2, cap2, rfl, HDe.out, H3.out.row, HR.out, H3.out.bel⟩
set_option maxHeartbeats 8000000 in
theorem answerI {w : World} {B b : Nat} {v : Value} {rm ov : Nat} {l : List Nat} (h : Inb w B b v rm ov l) (most : Nat) (ext : Bool) (hm : most < 4294967296) :
    Calls Try.prog 38 #[.pointer (some ⟨b, 0, none⟩), .int .u32 (most : Int), .bool ext] w fun e w' => CutAnswer w B b v rm ov l (ansD most ext l) e w' := by
  have h5 : 103 ≠ 5 := by decide
  have g0 : 36 ≠ 5 := by decide
  have g1 : 4 ≠ 5 := by decide
  obtain ⟨ao, cap, hv, hcr⟩ := h.row.crow
  obtain ⟨W0, hW0⟩ : ∃ W0, W0 = ((w.alloc (.cells #[.int .u32 (most : Int)] 36)).alloc (.cells #[.bool ext] 4)).alloc (.cells #[.bool false, .int .u32 0, .int .u64 0, .int .u16 0, .int .u16 0, .int .u64 0, .int .u64 0, Value.slice none 0 0] 103) := ⟨_, rfl⟩
  have hC0 := (((Cf.start h).alloc #[.int .u32 (most : Int)] 36 g0).alloc #[.bool ext] 4 g1).alloc #[.bool false, .int .u32 0, .int .u64 0, .int .u16 0, .int .u16 0, .int .u64 0, .int .u64 0, Value.slice none 0 0] 103 h5
  rw [World.size_alloc, World.size_alloc, ← hW0] at hC0
  have H0 : Hid _ := hC0
  have hb0 : Below w.heap.size w W0 := by rw [hW0]; exact bx3_bel w _ _ _
  have hpmost : W0.cell? ⟨w.heap.size, 0, none⟩ = some (.int .u32 (most : Int)) := by
    have := (hC0.c (.tail _ (.tail _ (.head _))) 0).1
    simpa using this
  have hpext : W0.cell? ⟨w.heap.size + 1, 0, none⟩ = some (.bool ext) := by
    have := (hC0.c (.tail _ (.head _)) 0).1
    simpa using this
  have HCt : Hid _ := cutAnswer hC0.inb #[.pointer (some ⟨w.heap.size, 0, none⟩), .pointer (some ⟨w.heap.size + 1, 0, none⟩)] (ansD most ext l) (ansD_n most ext l) (fun W hW => by
      have hc : CRow W ao cap l := (hcr.later hb0).later hW
      have := answer1 ao cap l most ext (w.heap.size) (w.heap.size + 1) W hc hm (cell_later hW hpmost) (cell_later hW hpext)
      rw [hv]
      exact this)
  clear hC0 hpmost hpext hb0 hcr hv
  go_enter Try.func38, Try.ntmps38
  go_wp2_with fail
  rw [← hW0]
  clear hW0
  refine Calls.mono HCt.out ?_
  rintro e W1 ⟨st, sc, sk, f, t, c, o, d, cu, l', v', ao2, cap2, rfl, hcut, hI, hA, hr, hn⟩
  have HCu : Hid _ := hcut
  have H1 : Hid _ := H0.out.told2 (d' := d) hI hA hr hn
  clear HCt hcut hI hA hr hn H0
  obtain ⟨r0, f0⟩ := H1.out.c (.head _) 0
  obtain ⟨r1, f1⟩ := H1.out.c (.head _) 1
  obtain ⟨r2, f2⟩ := H1.out.c (.head _) 2
  obtain ⟨r3, f3⟩ := H1.out.c (.head _) 3
  obtain ⟨r4, f4⟩ := H1.out.c (.head _) 4
  obtain ⟨r5, f5⟩ := H1.out.c (.head _) 5
  obtain ⟨r6, f6⟩ := H1.out.c (.head _) 6
  obtain ⟨r7, f7⟩ := H1.out.c (.head _) 7
  simp at r0 r1 r2 r3 r4 r5 r6 r7
  have HF : Hid _ := (Cf.put (pre := []) (Cf.put (pre := []) (Cf.put (pre := []) (Cf.put (pre := []) (Cf.put (pre := []) (Cf.put (pre := []) (Cf.put (pre := []) (Cf.put (pre := []) H1.out 0 (.bool st) (cs' := #[.bool st, .int .u32 0, .int .u64 0, .int .u16 0, .int .u16 0, .int .u64 0, .int .u64 0, Value.slice none 0 0]) rfl) 1 (.int .u32 (sc : Int)) (cs' := #[.bool st, .int .u32 (sc : Int), .int .u64 0, .int .u16 0, .int .u16 0, .int .u64 0, .int .u64 0, Value.slice none 0 0]) rfl) 2 (.int .u64 (sk : Int)) (cs' := #[.bool st, .int .u32 (sc : Int), .int .u64 (sk : Int), .int .u16 0, .int .u16 0, .int .u64 0, .int .u64 0, Value.slice none 0 0]) rfl) 3 (.int .u16 (f : Int)) (cs' := #[.bool st, .int .u32 (sc : Int), .int .u64 (sk : Int), .int .u16 (f : Int), .int .u16 0, .int .u64 0, .int .u64 0, Value.slice none 0 0]) rfl) 4 (.int .u16 (t : Int)) (cs' := #[.bool st, .int .u32 (sc : Int), .int .u64 (sk : Int), .int .u16 (f : Int), .int .u16 (t : Int), .int .u64 0, .int .u64 0, Value.slice none 0 0]) rfl) 5 (.int .u64 (c : Int)) (cs' := #[.bool st, .int .u32 (sc : Int), .int .u64 (sk : Int), .int .u16 (f : Int), .int .u16 (t : Int), .int .u64 (c : Int), .int .u64 0, Value.slice none 0 0]) rfl) 6 (.int .u64 (o : Int)) (cs' := #[.bool st, .int .u32 (sc : Int), .int .u64 (sk : Int), .int .u16 (f : Int), .int .u16 (t : Int), .int .u64 (c : Int), .int .u64 (o : Int), Value.slice none 0 0]) rfl) 7 (.slice ao2 d.length cap2) (cs' := #[.bool st, .int .u32 (sc : Int), .int .u64 (sk : Int), .int .u16 (f : Int), .int .u16 (t : Int), .int .u64 (c : Int), .int .u64 (o : Int), .slice ao2 d.length cap2]) rfl)
  clear H1
  go_wp2
  exact bodyPost_ret (results_cell_tmp1 rfl _ _ (w.heap.size + 1 + 1) 103 #[.bool st, .int .u32 (sc : Int), .int .u64 (sk : Int), .int .u16 (f : Int), .int .u16 (t : Int), .int .u64 (c : Int), .int .u64 (o : Int), .slice ao2 d.length cap2] (0, 0) _ rfl (HF.out.box _ (.head _)).1 Try.underlying103 rfl infoAns) rfl ⟨st, sc, sk, f, t, c, o, d, cu, l', v', ao2, cap2, rfl, HCu.out, HF.out.inb, HF.out.act, HF.out.row, HF.out.rn⟩
end Go.Proofs.Ytckfmpoddmccfaa

namespace Go.Proofs.Ytckfmpoddmccfaa
open Go.RowKit
set_option linter.unusedVariables false
set_option linter.unusedSimpArgs false
set_option maxRecDepth 100000

def CutData (w : World) (B b : Nat) (v : Value) (rm ov : Nat) (l : List Nat) (D : List Nat × Nat × Nat) (e : Ending) (w' : World) : Prop :=
  ∃ (d : List Nat) (cu : Nat) (l' : List Nat) (v' : Value) (ao2 : Option Addr) (cap2 : Nat), e = .returned (.tuple #[.slice ao2 d.length cap2, .int .i64 (cu : Int)]) ∧ cutOf [] ov l D = (d, cu, l') ∧ Inb w' B b v' rm ov l' ∧ IAct w w' b v v' ∧ w'.ownsRow w.heap.size 5 1 (.slice ao2 d.length cap2) d.length (d.map bv) ∧ ∀ g, (Value.slice ao2 d.length cap2).ownBlock = some g → v'.ownBlock ≠ some g
set_option maxHeartbeats 8000000 in
theorem cutData {w : World} {B b : Nat} {v : Value} {rm ov : Nat} {l : List Nat} (h : Inb w B b v rm ov l) (caps : Array Value) (D : List Nat × Nat × Nat) (hD : D.2.2 = 0 → D.2.1 ≤ l.length)
    (HD : Hid (∀ W : World, Below w.heap.size w W → Calls Try.prog 83 (#[v] ++ caps) W fun e W' => DatP D W e W')) :
    Calls Try.prog 85 #[.agg #[.pointer (some ⟨b, 0, none⟩), .func (.func 83) #[] caps]] w fun e w' => CutData w B b v rm ov l D e w' := by
  have h6 : 180 ≠ 5 := by decide
  obtain ⟨W0, hW0⟩ : ∃ W0, W0 = w.alloc (.cells #[.pointer (some ⟨b, 0, none⟩), .func (.func 83) #[] caps] 180) := ⟨_, rfl⟩
  have hC0 := (Cf.start h).alloc #[.pointer (some ⟨b, 0, none⟩), .func (.func 83) #[] caps] 180 h6
  rw [← hW0] at hC0
  have H0 : Hid _ := hC0
  have HU : Hid (Calls Try.prog 27 #[.pointer (some ⟨b, 0, none⟩)] W0 fun e w' => e = .returned (.bool true) ∧ w' = W0) := usableI hC0.inb
  have c2 := hC0.inb.c 2
  simp at c2
  obtain ⟨y0, _⟩ := hC0.c (.head _) 0
  obtain ⟨y1, _⟩ := hC0.c (.head _) 1
  simp at y0 y1
  have HBd : Hid (Below w.heap.size w W0.drew) := by
    show Below _ _ _
    rw [hW0]; exact below_drew ((Below.refl _ _).alloc (Nat.le_refl _) _)
  clear hC0 h
  go_enter Try.func85, Try.ntmps85
  go_wp2_with fail
  rw [← hW0]
  clear hW0
  refine HU.out.mono ?_
  rintro e w1 ⟨rfl, hw1⟩
  rw [hw1]; clear hw1 HU
  by_cases hov : 0 < ov
  · have t1 : decide ((0 : Int) < (ov : Int)) = true := by simp; omega
    have t2 : (0 : Int) < (ov : Int) := by omega
    go_wp2
    go_ret2
    exact ⟨[], 0, l, v, none, 0, rfl, by simp [cutOf, hov], H0.out.inb, H0.out.act, World.ownsRow_nil _ _ _ _, by simp [Value.ownBlock]⟩
  · obtain rfl : ov = 0 := by omega
    have c1 := H0.out.inb.c 1
    simp at c1
    have H1 : Hid _ := H0.out.drew
    have HDa : Hid _ := HD.out _ HBd.out
    clear HD HBd H0
    go_wp2
    go_region_with (go_at_call 83; refine Calls.mono HDa.out ?_; rintro e W1 ⟨d, n, er, ao2, cap2, rfl, hDe, hrow⟩; have H3 : Hid _ := H1.out.told hrow; have HDe : Hid _ := hDe; clear hrow hDe)
    all_goals
      have hD' := hD
      rw [HDe.out] at hD'
      obtain ⟨y0', _⟩ := H3.out.c (.head _) 0
      simp at y0'
      by_cases he0 : er = 0
      · subst he0
        have hn : n ≤ l.length := hD' rfl
        have HDr : Hid _ := dropI H3.out.inb n hn
        go_wp2_with fail
        refine Calls.mono HDr.out ?_
        rintro e W2 ⟨rfl, v', hI, hA⟩
        have H4 : Hid _ := H3.out.acts hI hA
        clear H3 hI hA HDr
        go_wp2
        go_ret2
        exact ⟨d, 1, l.drop n, v', ao2, cap2, rfl, by rw [HDe.out]; simp [cutOf], H4.out.inb, H4.out.act, H4.out.row, H4.out.rn⟩
      · have e0 : ¬ ((er : Int) = 0) := by omega
        by_cases he10 : er = 10
        · subst he10
          go_wp2
          go_ret2
          exact ⟨[], 0, l, v, none, 0, rfl, by rw [HDe.out]; simp [cutOf], H3.out.inb, H3.out.act, World.ownsRow_nil _ _ _ _, by simp [Value.ownBlock]⟩
        · have e10 : ¬ ((er : Int) = 10) := by omega
          by_cases he12 : er = 12
          · subst he12
            go_wp2
            go_ret2
            exact ⟨[], 3, l, v, none, 0, rfl, by rw [HDe.out]; simp [cutOf], H3.out.inb, H3.out.act, World.ownsRow_nil _ _ _ _, by simp [Value.ownBlock]⟩
          · have e12 : ¬ ((er : Int) = 12) := by omega
            go_wp2
            go_ret2
            exact ⟨[], 2, l, v, none, 0, rfl, by rw [HDe.out]; simp [cutOf, *], H3.out.inb, H3.out.act, World.ownsRow_nil _ _ _ _, by simp [Value.ownBlock]⟩
end Go.Proofs.Ytckfmpoddmccfaa

namespace Go.Proofs.Ytckfmpoddmccfaa
open Go.RowKit
set_option linter.unusedVariables false
set_option linter.unusedSimpArgs false
set_option maxRecDepth 100000
set_option maxHeartbeats 1000000 in
theorem data1 (ao : Option Addr) (cap : Nat) (l : List Nat) (z : Int) (pz : Nat) (w : World) (h : CRow w ao cap l) (hp : w.cell? ⟨pz, 0, none⟩ = some (.int .i64 z)) :
    Calls Try.prog 83 #[.slice ao l.length cap, .pointer (some ⟨pz, 0, none⟩)] w fun e w' => DatP (datD z l) w e w' := by
  have HD : Hid (Calls Try.prog 84 #[.slice ao l.length cap, .int .i64 z] w fun e w' => DatP (datD z l) w e w') := decDataA ao cap l z w h
  obtain ⟨ln, hln⟩ : ∃ ln, l.length = ln := ⟨_, rfl⟩
  rw [hln] at HD
  rw [hln]
  clear h
  go_enter Try.func83, Try.ntmps83
  go_wp2_with fail
  refine HD.out.mono ?_
  rintro e W1 ⟨d, n, er, ao2, cap2, rfl, hD, hr⟩
  have HDe : Hid _ := hD
  have HR : Hid _ := hr
  clear HD hD hr
  go_wp2
  go_ret3
  exact ⟨d, n, er, ao2, cap2, rfl, HDe.out, HR.out⟩
set_option maxHeartbeats 2000000 in
theorem dataI {w : World} {B b : Nat} {v : Value} {rm ov : Nat} {l : List Nat} (h : Inb w B b v rm ov l) (z : Int) :
    Calls Try.prog 40 #[.pointer (some ⟨b, 0, none⟩), .int .i64 z] w fun e w' => CutData w B b v rm ov l (datD z l) e w' := by
  have g0 : 3 ≠ 5 := by decide
  obtain ⟨ao, cap, hv, hcr⟩ := h.row.crow
  obtain ⟨W0, hW0⟩ : ∃ W0, W0 = w.alloc (.cells #[.int .i64 z] 3) := ⟨_, rfl⟩
  have hC0 := (Cf.start h).alloc #[.int .i64 z] 3 g0
  rw [← hW0] at hC0
  have H0 : Hid _ := hC0
  have hb0 : Below w.heap.size w W0 := by rw [hW0]; exact (Below.refl _ _).alloc (Nat.le_refl _) _
  have hpz : W0.cell? ⟨w.heap.size, 0, none⟩ = some (.int .i64 z) := by
    have := (hC0.c (.head _) 0).1
    simpa using this
  have HCt : Hid _ := cutData hC0.inb #[.pointer (some ⟨w.heap.size, 0, none⟩)] (datD z l) (datD_n z l) (fun W hW => by
      have hc : CRow W ao cap l := (hcr.later hb0).later hW
      have := data1 ao cap l z w.heap.size W hc (cell_later hW hpz)
      rw [hv]
      exact this)
  clear hC0 hpz hb0 hcr hv
  go_enter Try.func40, Try.ntmps40
  go_wp2_with fail
  rw [← hW0]
  clear hW0
  refine Calls.mono HCt.out ?_
  rintro e W1 ⟨d, cu, l', v', ao2, cap2, rfl, hcut, hI, hA, hr, hn⟩
  have HCu : Hid _ := hcut
  have H1 : Hid _ := H0.out.told2 (d' := d) hI hA hr hn
  clear HCt hcut hI hA hr hn H0
  go_wp2
  go_ret2
  exact ⟨d, cu, l', v', ao2, cap2, rfl, HCu.out, H1.out.inb, H1.out.act, H1.out.row, H1.out.rn⟩
end Go.Proofs.Ytckfmpoddmccfaa

namespace Go.Proofs.Ytckfmpoddmccfaa
open Go.RowKit
set_option linter.unusedVariables false
set_option linter.unusedSimpArgs false
set_option maxRecDepth 100000
theorem cut1 {X : Type} (z : X) (l : List Nat) (x : X) (n : Nat) : cutOf z 0 l (x, n, 0) = (x, 1, l.drop n) := by simp [cutOf]
theorem drop_all (a m : List Nat) (n : Nat) (h : a.length = n) : (a ++ m).drop n = m := by rw [← h]; exact List.drop_left
theorem flagsT {w : World} {B b : Nat} {v : Value} {rm : Nat} {m : List Nat} (f : Nat) (h : Inb w B b v rm 0 (bigTo f 4 4 ++ m)) (hf : f < 4294967296) :
    Calls Try.prog 25 #[.pointer (some ⟨b, 0, none⟩)] w fun e w' => e = .returned (.tuple #[.int .u32 (f : Int), .int .i64 1]) ∧ ∃ v', Inb w' B b v' rm 0 m ∧ IAct w w' b v v' := by
  refine (flagsI h).mono ?_
  rintro e w' ⟨f1, cu, l1, v1, rfl, hc, hi, ha⟩
  rw [flaD_enc f m hf, cut1] at hc
  simp only [Prod.mk.injEq] at hc
  obtain ⟨rfl, rfl, rfl⟩ := hc
  rw [drop_all _ m _ (by simp [bigTo_length])] at hi
  exact ⟨rfl, v1, hi, ha⟩
theorem greetingT {w : World} {B b : Nat} {v : Value} {rm : Nat} {m : List Nat} (f : Nat) (h : Inb w B b v rm 0 (gL f ++ m)) (hf : f < 65536) :
    Calls Try.prog 31 #[.pointer (some ⟨b, 0, none⟩)] w fun e w' => e = .returned (.tuple #[.agg #[.int .u16 (f : Int)], .int .i64 1]) ∧ ∃ v', Inb w' B b v' rm 0 m ∧ IAct w w' b v v' := by
  refine (greetingI h).mono ?_
  rintro e w' ⟨f1, cu, l1, v1, ao2, cap2, rfl, hc, hi, ha, ho, hn⟩
  rw [greD_enc f m hf, cut1] at hc
  simp only [Prod.mk.injEq] at hc
  obtain ⟨rfl, rfl, rfl⟩ := hc
  rw [drop_all _ m _ (by simp [gL, bigTo_length])] at hi
  exact ⟨rfl, v1, hi, ha⟩
theorem replyT {w : World} {B b : Nat} {v : Value} {rm : Nat} {m : List Nat} (o k : Nat) (d : List Nat) (h : Inb w B b v rm 0 (rL o k d ++ m)) (ho1 : o < 4294967296) (hk1 : k < 4294967296) (hd : d.length < 4294967296) :
    Calls Try.prog 33 #[.pointer (some ⟨b, 0, none⟩), .int .u32 4294967295] w fun e w' => ∃ ao2 cap2, e = .returned (.tuple #[.agg #[.int .u32 (o : Int), .int .u32 (k : Int), .slice ao2 d.length cap2], .int .i64 1]) ∧ ∃ v', Inb w' B b v' rm 0 m ∧ IAct w w' b v v' ∧ w'.ownsRow w.heap.size 5 1 (.slice ao2 d.length cap2) d.length (d.map bv) ∧ ∀ g, (Value.slice ao2 d.length cap2).ownBlock = some g → v'.ownBlock ≠ some g := by
  refine (replyI h 4294967295 (by decide)).mono ?_
  rintro e w' ⟨o1, k1, d1, cu, l1, v1, ao2, cap2, rfl, hc, hi, ha, ho, hn⟩
  rw [repD_enc o k d m ho1 hk1 hd, cut1] at hc
  simp only [Prod.mk.injEq] at hc
  obtain ⟨⟨rfl, rfl, rfl⟩, rfl, rfl⟩ := hc
  rw [drop_all _ m _ (by simp [rL, bigTo_length]; omega)] at hi
  exact ⟨ao2, cap2, rfl, v1, hi, ha, ho, hn⟩
theorem requestT {w : World} {B b : Nat} {v : Value} {rm : Nat} {m : List Nat} (f t c o n : Nat) (d : List Nat) (ext : Bool) (h : Inb w B b v rm 0 (qL f t c o n d ext ++ m)) (hf : f < 65536) (ht : t < 65536) (hc1 : c < 18446744073709551616) (ho1 : o < 18446744073709551616) (hn1 : n < 18446744073709551616) (hfit : fitB f t n d.length ext = true) (hd : d.length ≤ 4294967295) :
    Calls Try.prog 36 #[.pointer (some ⟨b, 0, none⟩), .int .u32 4294967295, .bool ext] w fun e w' => ∃ ao2 cap2, e = .returned (.tuple #[.agg #[.int .u16 (f : Int), .int .u16 (t : Int), .int .u64 (c : Int), .int .u64 (o : Int), .int .u64 (n : Int), .slice ao2 d.length cap2], .int .i64 1]) ∧ ∃ v', Inb w' B b v' rm 0 m ∧ IAct w w' b v v' ∧ w'.ownsRow w.heap.size 5 1 (.slice ao2 d.length cap2) d.length (d.map bv) ∧ ∀ g, (Value.slice ao2 d.length cap2).ownBlock = some g → v'.ownBlock ≠ some g := by
  refine (requestI h 4294967295 ext (by decide)).mono ?_
  rintro e w' ⟨f1, t1, c1, o1, k1, d1, cu, l1, v1, ao2, cap2, rfl, hc, hi, ha, ho, hn⟩
  rw [reqD_enc f t c o n d m ext hf ht hc1 ho1 hn1 hfit hd, cut1] at hc
  simp only [Prod.mk.injEq] at hc
  obtain ⟨⟨rfl, rfl, rfl, rfl, rfl, rfl⟩, rfl, rfl⟩ := hc
  rw [drop_all _ m _ (by cases ext <;> simp [qL, nL, qz, bigTo_length] <;> omega)] at hi
  exact ⟨ao2, cap2, rfl, v1, hi, ha, ho, hn⟩
theorem chunkT {w : World} {B b : Nat} {v : Value} {rm : Nat} {m : List Nat} (f t c o : Nat) (d : List Nat) (ext : Bool) (h : Inb w B b v rm 0 ((if ext = true then cL64 f t c o d else cL f t c d) ++ m)) (hf : f < 65536) (ht : t < 65536) (hc1 : c < 18446744073709551616) (ho1 : o < 18446744073709551616) (hd : d.length ≤ 4294967295) :
    Calls Try.prog 38 #[.pointer (some ⟨b, 0, none⟩), .int .u32 4294967295, .bool ext] w fun e w' => ∃ ao2 cap2, e = .returned (.tuple #[.agg #[.bool true, .int .u32 0, .int .u64 0, .int .u16 (f : Int), .int .u16 (t : Int), .int .u64 (c : Int), .int .u64 ((if ext = true then o else 0 : Nat) : Int), .slice ao2 d.length cap2], .int .i64 1]) ∧ ∃ v', Inb w' B b v' rm 0 m ∧ IAct w w' b v v' ∧ w'.ownsRow w.heap.size 5 1 (.slice ao2 d.length cap2) d.length (d.map bv) ∧ ∀ g, (Value.slice ao2 d.length cap2).ownBlock = some g → v'.ownBlock ≠ some g := by
  refine (answerI h 4294967295 ext (by decide)).mono ?_
  rintro e w' ⟨s1, s2, s3, f1, t1, c1, o1, d1, cu, l1, v1, ao2, cap2, rfl, hc, hi, ha, ho, hn⟩
  rw [ansD_chunk f t c o d m ext hf ht hc1 ho1 hd, cut1] at hc
  simp only [Prod.mk.injEq] at hc
  obtain ⟨⟨rfl, rfl, rfl, rfl, rfl, rfl, rfl, rfl⟩, rfl, rfl⟩ := hc
  rw [drop_all _ m _ (by cases ext <;> simp [cL, cL64, nL, cz, bigTo_length] <;> omega)] at hi
  exact ⟨ao2, cap2, rfl, v1, hi, ha, ho, hn⟩
theorem chunkTt {w : World} {B b : Nat} {v : Value} {rm : Nat} {m : List Nat} (f t c o : Nat) (d : List Nat) (h : Inb w B b v rm 0 (cL64 f t c o d ++ m)) (hf : f < 65536) (ht : t < 65536) (hc1 : c < 18446744073709551616) (ho1 : o < 18446744073709551616) (hd : d.length ≤ 4294967295) :
    Calls Try.prog 38 #[.pointer (some ⟨b, 0, none⟩), .int .u32 4294967295, .bool true] w fun e w' => ∃ ao2 cap2, e = .returned (.tuple #[.agg #[.bool true, .int .u32 0, .int .u64 0, .int .u16 (f : Int), .int .u16 (t : Int), .int .u64 (c : Int), .int .u64 (o : Int), .slice ao2 d.length cap2], .int .i64 1]) ∧ ∃ v', Inb w' B b v' rm 0 m ∧ IAct w w' b v v' ∧ w'.ownsRow w.heap.size 5 1 (.slice ao2 d.length cap2) d.length (d.map bv) ∧ ∀ g, (Value.slice ao2 d.length cap2).ownBlock = some g → v'.ownBlock ≠ some g :=
  chunkT f t c o d true h hf ht hc1 ho1 hd
theorem chunkTf {w : World} {B b : Nat} {v : Value} {rm : Nat} {m : List Nat} (f t c o : Nat) (d : List Nat) (h : Inb w B b v rm 0 (cL f t c d ++ m)) (hf : f < 65536) (ht : t < 65536) (hc1 : c < 18446744073709551616) (ho1 : o < 18446744073709551616) (hd : d.length ≤ 4294967295) :
    Calls Try.prog 38 #[.pointer (some ⟨b, 0, none⟩), .int .u32 4294967295, .bool false] w fun e w' => ∃ ao2 cap2, e = .returned (.tuple #[.agg #[.bool true, .int .u32 0, .int .u64 0, .int .u16 (f : Int), .int .u16 (t : Int), .int .u64 (c : Int), .int .u64 0, .slice ao2 d.length cap2], .int .i64 1]) ∧ ∃ v', Inb w' B b v' rm 0 m ∧ IAct w w' b v v' ∧ w'.ownsRow w.heap.size 5 1 (.slice ao2 d.length cap2) d.length (d.map bv) ∧ ∀ g, (Value.slice ao2 d.length cap2).ownBlock = some g → v'.ownBlock ≠ some g :=
  chunkT f t c o d false h hf ht hc1 ho1 hd
theorem simpleT {w : World} {B b : Nat} {v : Value} {rm : Nat} {m : List Nat} (c k : Nat) (h : Inb w B b v rm 0 (sL c k ++ m)) (hc1 : c < 4294967296) (hk1 : k < 18446744073709551616) :
    Calls Try.prog 38 #[.pointer (some ⟨b, 0, none⟩), .int .u32 4294967295, .bool false] w fun e w' => ∃ ao2 cap2, e = .returned (.tuple #[.agg #[.bool false, .int .u32 (c : Int), .int .u64 (k : Int), .int .u16 0, .int .u16 0, .int .u64 0, .int .u64 0, .slice ao2 ([] : List Nat).length cap2], .int .i64 1]) ∧ ∃ v', Inb w' B b v' rm 0 m ∧ IAct w w' b v v' ∧ w'.ownsRow w.heap.size 5 1 (.slice ao2 ([] : List Nat).length cap2) ([] : List Nat).length (([] : List Nat).map bv) ∧ ∀ g, (Value.slice ao2 ([] : List Nat).length cap2).ownBlock = some g → v'.ownBlock ≠ some g := by
  refine (answerI h 4294967295 false (by decide)).mono ?_
  rintro e w' ⟨s1, s2, s3, f1, t1, c1, o1, d1, cu, l1, v1, ao2, cap2, rfl, hc, hi, ha, ho, hn⟩
  rw [ansD_simple c k 4294967295 m hc1 hk1, cut1] at hc
  simp only [Prod.mk.injEq] at hc
  obtain ⟨⟨rfl, rfl, rfl, rfl, rfl, rfl, rfl, rfl⟩, rfl, rfl⟩ := hc
  rw [drop_all _ m _ (by simp [sL, bigTo_length])] at hi
  exact ⟨ao2, cap2, rfl, v1, hi, ha, ho, hn⟩
theorem dataT {w : World} {B b : Nat} {v : Value} {rm : Nat} {m : List Nat} (d : List Nat) (h : Inb w B b v rm 0 (d ++ m))  :
    Calls Try.prog 40 #[.pointer (some ⟨b, 0, none⟩), .int .i64 (d.length : Int)] w fun e w' => ∃ ao2 cap2, e = .returned (.tuple #[.slice ao2 d.length cap2, .int .i64 1]) ∧ ∃ v', Inb w' B b v' rm 0 m ∧ IAct w w' b v v' ∧ w'.ownsRow w.heap.size 5 1 (.slice ao2 d.length cap2) d.length (d.map bv) ∧ ∀ g, (Value.slice ao2 d.length cap2).ownBlock = some g → v'.ownBlock ≠ some g := by
  refine (dataI h (d.length : Int)).mono ?_
  rintro e w' ⟨d1, cu, l1, v1, ao2, cap2, rfl, hc, hi, ha, ho, hn⟩
  rw [datD_enc d m, cut1] at hc
  simp only [Prod.mk.injEq] at hc
  obtain ⟨rfl, rfl, rfl⟩ := hc
  rw [drop_all _ m _ (by rfl)] at hi
  exact ⟨ao2, cap2, rfl, v1, hi, ha, ho, hn⟩
theorem optionT {w : World} {B b : Nat} {v : Value} {rm : Nat} {m : List Nat} (c : Nat) (d : List Nat) (h : Inb w B b v rm 0 (oL c d ++ m)) (hc1 : c < 4294967296) (hd : d.length < 4294967296) :
    Calls Try.prog 24 #[.pointer (some ⟨b, 0, none⟩), .int .u32 4294967295] w fun e w' => ∃ ao2 cap2, e = .returned (.tuple #[.agg #[.int .u32 (c : Int), .int .u32 (d.length : Int), .bool false, .slice ao2 d.length cap2], .int .i64 1]) ∧ ∃ v', Inb w' B b v' rm 0 m ∧ IAct w w' b v v' ∧ w'.ownsRow w.heap.size 5 1 (.slice ao2 d.length cap2) d.length (d.map bv) ∧ ∀ g, (Value.slice ao2 d.length cap2).ownBlock = some g → v'.ownBlock ≠ some g := by
  refine (optionI h 4294967295 (by decide)).mono ?_
  rintro e w' ⟨c1, k1, lg1, d1, cu, ov1, l1, v1, ao2, cap2, rfl, hc, hi, ha, ho, hn⟩
  have ho0 : optC 4294967295 0 (oL c d ++ m) = ((c, d.length, false, d), 1, 0, (oL c d ++ m).drop (16 + d.length)) := by
    have h1 : optF 4294967295 (oL c d ++ m) = ((c, d.length, false, d), 16 + d.length, 0) := by unfold optF; rw [optD_enc c d m hc1 hd]; simp
    unfold optC; rw [h1, cut1]; simp
  rw [ho0] at hc
  simp only [Prod.mk.injEq] at hc
  obtain ⟨⟨rfl, rfl, rfl, rfl⟩, rfl, rfl, rfl⟩ := hc
  rw [drop_all _ m _ (by simp [oL, bigTo_length]; omega)] at hi
  exact ⟨ao2, cap2, rfl, v1, hi, ha, ho, hn⟩
end Go.Proofs.Ytckfmpoddmccfaa
