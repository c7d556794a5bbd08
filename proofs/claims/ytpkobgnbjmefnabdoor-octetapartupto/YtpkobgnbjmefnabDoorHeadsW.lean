import Derived.Test.YtpkobgnbjmefnabDoorReaderT
import Derived.Test.YtpkobgnbjmefnabDoorCrcW
import Derived.Lib.SlBytesConst
namespace Go.Proofs.YtpkobgnbjmefnabDoor
open Go.RowKit
set_option linter.unusedVariables false
set_option maxRecDepth 100000

def headL : List Nat := [1, 2, 0, 0, 0, 2, 97, 98]
theorem headL_eq : (([] : List Nat) ++ bigTo 258 2 2) ++ (bigTo 2 4 4 ++ sbytes ⟨#[97, 98]⟩) = headL := by decide
theorem wset_below {w w' : World} {B p : Nat} {v : Value} {l : List Nat} (h : WOk w B p v l) (k : KeptIn (wset p v) w w') (hB : B ≤ w.heap.size) : Below B w w' :=
  k.below hB (fun g hg hS => by
    rcases hS with e | e
    · have := h.hp; omega
    · have := (owns_lt h.own g e).2; omega)
theorem lit_brow (W : World) (cs : List Nat) (fr : Nat × Nat) (hlt : ∀ x ∈ cs, x < 256) (hlen : cs.length ≤ 140737488351232) (cap : Nat) (W' : World) (hb : Below (W.heap.size + 1) (W.alloc (.cells (cs.map bv).toArray 5 fr)) W') :
    BRow W' (some ⟨W.heap.size, 0, none⟩) cap cs := by
  refine ⟨hlt, hlen, fun h => by simp at h, fun _ => ⟨W.heap.size, 0, rfl, fun k hk => ?_⟩⟩
  rw [hb.cell (p := ⟨W.heap.size, 0 + k, none⟩) (Nat.lt_succ_self _), Nat.zero_add, World.cell?_alloc_mark]
  simp [hk]

theorem head_v : Hid (valB ((headL.drop 2).take 4) = 2) := by show valB ((headL.drop 2).take 4) = 2; decide
theorem head_p : Hid (plainB (bstr ((headL.drop (2 + 4)).take 2)).data.toList = true) := by show plainB (bstr ((headL.drop (2 + 4)).take 2)).data.toList = true; decide +kernel
def fourL : List Nat := [49, 50, 51, 52]
def fiveL : List Nat := [53, 54, 55, 56, 57]
theorem crc_nine : crcOf (flat (fun i => if i = 0 then fourL else fiveL) 2) = 3808858755 := by decide +kernel
theorem crc_two (W : World) :
    Calls Tryd.prog 68 #[.slice (some ⟨W.heap.size + 1 + 1, 0, none⟩) 2 2] (((W.alloc (.cells (fourL.map bv).toArray 5 (4, 5))).alloc (.cells (fiveL.map bv).toArray 5 (5, 6))).alloc (.cells #[.slice (some ⟨W.heap.size, 0, none⟩) 4 4, .slice (some ⟨W.heap.size + 1, 0, none⟩) 5 5] 37))
      fun e w' => e = .returned (.int .u32 3808858755) ∧ w' = (((W.alloc (.cells (fourL.map bv).toArray 5 (4, 5))).alloc (.cells (fiveL.map bv).toArray 5 (5, 6))).alloc (.cells #[.slice (some ⟨W.heap.size, 0, none⟩) 4 4, .slice (some ⟨W.heap.size + 1, 0, none⟩) 5 5] 37)) := by
  have hz1 : (W.alloc (.cells (fourL.map bv).toArray 5 (4, 5))).heap.size = W.heap.size + 1 := by simp
  have hz2 : ((W.alloc (.cells (fourL.map bv).toArray 5 (4, 5))).alloc (.cells (fiveL.map bv).toArray 5 (5, 6))).heap.size = W.heap.size + 1 + 1 := by simp
  have := crc_some (W.heap.size + 1 + 1) 0 2 2 (fun i => if i = 0 then some ⟨W.heap.size, 0, none⟩ else some ⟨W.heap.size + 1, 0, none⟩) (fun i => if i = 0 then 4 else 5) (fun i => if i = 0 then fourL else fiveL)
    (((W.alloc (.cells (fourL.map bv).toArray 5 (4, 5))).alloc (.cells (fiveL.map bv).toArray 5 (5, 6))).alloc (.cells #[.slice (some ⟨W.heap.size, 0, none⟩) 4 4, .slice (some ⟨W.heap.size + 1, 0, none⟩) 5 5] 37)) (by decide)
    (fun i hi => by
      have hc := World.cell?_alloc_mark ((W.alloc (.cells (fourL.map bv).toArray 5 (4, 5))).alloc (.cells (fiveL.map bv).toArray 5 (5, 6))) #[.slice (some ⟨W.heap.size, 0, none⟩) 4 4, .slice (some ⟨W.heap.size + 1, 0, none⟩) 5 5] 37 (0, 0) (0 + i)
      rw [hz2] at hc
      refine hc.trans ?_
      rcases (show i = 0 ∨ i = 1 by omega) with rfl | rfl <;> rfl)
    (fun i hi => by
      rcases (show i = 0 ∨ i = 1 by omega) with rfl | rfl
      · refine lit_brow W fourL (4, 5) (by decide) (by decide) 4 _ ?_
        exact ((Below.refl _ _).alloc (by simp) _).alloc (by simp) _
      · have h2 := lit_brow (W.alloc (.cells (fourL.map bv).toArray 5 (4, 5))) fiveL (5, 6) (by decide) (by decide) 5 (((W.alloc (.cells (fourL.map bv).toArray 5 (4, 5))).alloc (.cells (fiveL.map bv).toArray 5 (5, 6))).alloc (.cells #[.slice (some ⟨W.heap.size, 0, none⟩) 4 4, .slice (some ⟨W.heap.size + 1, 0, none⟩) 5 5] 37)) ((Below.refl _ _).alloc (by simp) _)
        rw [hz1] at h2
        exact h2)
  rw [crc_nine] at this
  exact this

set_option maxRecDepth 100000 in
set_option maxHeartbeats 2000000 in
theorem heads_any (w : World) (hT : Tabs w) :
    Calls Tryd.prog 23 #[] w fun e w' => e = .returned (.bool true) ∧ Below w.heap.size w w' := by
  have kc := fun (w : World) (C : Array Value) (n c : Nat) => Lib.run_convert_bytes_const (P := Tryd.prog) w 37 5 C n c Tryd.underlying37 Tryd.underlying5
  have HT : Hid (Tabs w) := hT
  have HB1 : Hid (Below w.heap.size w (w.alloc (.cells #[.bool true, .slice none 0 0] 61))) := (Below.refl _ _).alloc (Nat.le_refl _) _
  have HW1 : Hid (WOk (w.alloc (.cells #[.bool true, .slice none 0 0] 61)) w.heap.size w.heap.size (.slice none 0 0) []) := wok_new w
  have HN : Hid (Calls Tryd.prog 16 #[] w fun e w' => e = .returned (.pointer (some ⟨w.heap.size, 0, none⟩)) ∧ w' = w.alloc (.cells #[.bool true, .slice none 0 0] 61)) := newWriter_any w
  have HU : Hid (Calls Tryd.prog 43 #[.pointer (some ⟨w.heap.size, 0, none⟩), .int .u16 258] (w.alloc (.cells #[.bool true, .slice none 0 0] 61)) fun e w' => e = .returned (.tuple #[]) ∧ ∃ v', WPost (w.alloc (.cells #[.bool true, .slice none 0 0] 61)) w' w.heap.size w.heap.size (.slice none 0 0) v' ([] ++ bigTo 258 2 2)) :=
    wu16_any w.heap.size w.heap.size 258 (.slice none 0 0) [] _ HW1.out (by decide) (by decide) (by simp)
  clear hT
  generalize w.alloc (.cells #[.bool true, .slice none 0 0] 61) = W1 at *
  go_enter Tryd.func23, Tryd.ntmps23
  go_wp2_with fail
  refine HN.out.mono ?_
  rintro e w1 ⟨rfl, hw⟩
  rw [hw]; clear hw
  go_wp2_with fail
  refine HU.out.mono ?_
  rintro e w2 ⟨rfl, v2, hp2⟩
  have HP2 : Hid (WOk w2 w.heap.size w.heap.size v2 ([] ++ bigTo 258 2 2)) := hp2.ok
  have HB2 : Hid (Below w.heap.size w w2) := HB1.out.trans (wset_below HW1.out hp2.kept HB1.out.size)
  have HX : Hid (Calls Tryd.prog 51 #[.pointer (some ⟨w.heap.size, 0, none⟩), .string ⟨#[97, 98]⟩] w2 fun e w' => e = .returned (.int .i64 0) ∧ ∃ v', WOk w' w.heap.size w.heap.size v' headL ∧ Below w.heap.size w w') := by
    refine (wtext_ok w.heap.size w.heap.size v2 _ ⟨#[97, 98]⟩ w2 HP2.out (HT.out.later HB2.out) (by decide +kernel) (by decide) (by decide) HB2.out.size).mono fun e w' ⟨he, v', hp⟩ => ?_
    have := hp.ok
    rw [show (⟨#[97, 98]⟩ : ByteArray).size = 2 from rfl, headL_eq] at this
    exact ⟨he, v', this, HB2.out.trans (wset_below HP2.out hp.kept HB2.out.size)⟩
  clear hp2 HU HN HW1 HB1
  go_wp2_with fail
  refine HX.out.mono ?_
  rintro e w3 ⟨rfl, v3, hp3, hb3⟩
  have HP3 : Hid (WOk w3 w.heap.size w.heap.size v3 headL) := hp3
  have HB3 : Hid (Below w.heap.size w w3) := hb3
  clear hp3 hb3
  have HO : Hid (Calls Tryd.prog 21 #[.pointer (some ⟨w.heap.size, 0, none⟩)] w3 fun e w' => ∃ ao' cap', e = .returned (.slice ao' 8 cap') ∧ BRow w' ao' cap' headL ∧ Below w.heap.size w w') := by
    refine (wout_any w.heap.size w.heap.size v3 headL w3 HP3.out (by decide)).mono fun e w' ⟨ao', cap', he, ho, hb⟩ => ?_
    obtain ⟨ao2, cap2, hv, hr⟩ := BRow.own ho (by decide) (by decide)
    simp only [Value.slice.injEq] at hv
    obtain ⟨rfl, _, rfl⟩ := hv
    exact ⟨ao', cap', he, hr, HB3.out.trans (hb.mono HB3.out.size)⟩
  go_wp2_with fail
  refine HO.out.mono ?_
  rintro e w4 ⟨ao4, cap4, rfl, hr4, hb4⟩
  have HR4 : Hid (BRow w4 ao4 cap4 headL) := hr4
  have HB4 : Hid (Below w.heap.size w w4) := hb4
  clear hr4 hb4
  have HB5 : Hid (Below w.heap.size w (w4.alloc (.cells (headL.map bv).toArray 5))) := HB4.out.alloc HB4.out.size _
  have HR5 : Hid (BRow (w4.alloc (.cells (headL.map bv).toArray 5)) ao4 cap4 headL) := HR4.out.later ((Below.refl _ _).alloc (Nat.le_refl _) _)
  have HS : Hid (Calls Tryd.prog 22 #[.slice ao4 8 cap4, .slice (some ⟨w4.heap.size, 0, none⟩) 8 8] (w4.alloc (.cells (headL.map bv).toArray 5)) fun e w' => e = .returned (.bool true) ∧ ∃ q, w' = (w4.alloc (.cells (headL.map bv).toArray 5)).drewN q) := by
    have := same_any ao4 (some ⟨w4.heap.size, 0, none⟩) cap4 8 headL headL (w4.alloc (.cells (headL.map bv).toArray 5)) HR5.out (lit_brow w4 headL (0, 0) (by decide) (by decide) 8 _ (Below.refl _ _))
    simpa [Hid, headL] using this
  go_wp2_with fail
  refine HS.out.mono ?_
  rintro e w5 ⟨rfl, q, hw⟩
  rw [hw]; clear hw
  have HRd : Hid (Calls Tryd.prog 17 #[.slice ao4 8 cap4] ((w4.alloc (.cells (headL.map bv).toArray 5)).drewN q) fun e w' => ∃ B r g cap', e = .returned (.pointer (some ⟨r, 0, none⟩)) ∧ ROk w' B r (some ⟨g, 0, none⟩) cap' headL 0 ∧ B ≤ w'.heap.size ∧ w.heap.size ≤ B ∧ Below w.heap.size w w') := by
    refine (newReader_any ao4 cap4 8 headL _ (HR5.out.drewN q) rfl).mono fun e w' ⟨r, ao', cap', he, hr, hb⟩ => ?_
    obtain ⟨g, rfl⟩ := some_of_len hr (by decide)
    have hb0 := below_drewN HB5.out q
    exact ⟨_, r, g, cap', he, hr, hb.size, hb0.size, hb0.trans (hb.mono hb0.size)⟩
  clear HS HO HX
  generalize (w4.alloc (.cells (headL.map bv).toArray 5)).drewN q = W5 at *
  go_wp2_with fail
  refine HRd.out.mono ?_
  rintro e w6 ⟨B, r, g6, cap6, rfl, hr6, hB6, hwB, hb6⟩
  have HR6 : Hid (ROk w6 B r (some ⟨g6, 0, none⟩) cap6 headL 0) := hr6
  have HB6 : Hid (Below w.heap.size w w6) := hb6
  have HBz : Hid (B ≤ w6.heap.size ∧ w.heap.size ≤ B) := ⟨hB6, hwB⟩
  clear hr6 hb6 hB6 hwB HRd
  have HU6 : Hid (Calls Tryd.prog 55 #[.pointer (some ⟨r, 0, none⟩)] w6 fun e w' => e = .returned (.tuple #[.int .u16 258, .int .i64 0]) ∧ ROk w' B r (some ⟨g6, 0, none⟩) cap6 headL 2 ∧ B ≤ w'.heap.size ∧ Below w.heap.size w w') := by
    refine (ru16_any B r _ cap6 headL 0 w6 HR6.out).mono fun e w' hh => ?_
    rcases hh with ⟨hs, _⟩ | ⟨_, he, hp⟩
    · exact absurd hs (by decide)
    · have hbw : Below w.heap.size w6 w' := hp.kept.below HB6.out.size (fun g hg e => by have h1 := HR6.out.hr; have h2 := HBz.out.2; omega)
      exact ⟨he, hp.ok, Nat.le_trans HBz.out.1 hp.kept.size, HB6.out.trans hbw⟩
  go_wp2_with fail
  refine HU6.out.mono ?_
  rintro e w7 ⟨rfl, hr7, hB7, hb7⟩
  have HR7 : Hid (ROk w7 B r (some ⟨g6, 0, none⟩) cap6 headL 2) := hr7
  have HB7 : Hid (Below w.heap.size w w7) := hb7
  have HX7 : Hid (Calls Tryd.prog 61 #[.pointer (some ⟨r, 0, none⟩), .int .i64 2] w7 fun e w' => e = .returned (.tuple #[.string ⟨#[97, 98]⟩, .int .i64 0]) ∧ Below w.heap.size w w') := by
    refine (rtext_ok B r g6 cap6 headL 2 8 2 2 w7 hr7 (HT.out.later hb7) rfl head_v (by decide) (by decide) (by decide) (by decide) hB7 head_p).mono fun e w' ⟨he, hp⟩ => ?_
    have hbw : Below w.heap.size w7 w' := hp.kept.below hb7.size (fun g hg e => by have h1 := HR7.out.hr; have h2 := HBz.out.2; omega)
    exact ⟨he, hb7.trans hbw⟩
  clear hr7 hB7 hb7 HU6
  go_wp2_with fail
  refine HX7.out.mono ?_
  rintro e w8 ⟨rfl, hb8⟩
  have HB8 : Hid (Below w.heap.size w w8) := hb8
  clear hb8 HX7
  have kc2 := fun (C : Array Value) (nn cc : Nat) => kc (w8.alloc (.cells #[.int .u8 49, .int .u8 50, .int .u8 51, .int .u8 52] 5 (4, 5))) C nn cc
  simp only [World.size_alloc] at kc2
  have HCr : Hid (Calls Tryd.prog 68 #[.slice (some ⟨w8.heap.size + 1 + 1, 0, none⟩) 2 2] (((w8.alloc (.cells (fourL.map bv).toArray 5 (4, 5))).alloc (.cells (fiveL.map bv).toArray 5 (5, 6))).alloc (.cells #[.slice (some ⟨w8.heap.size, 0, none⟩) 4 4, .slice (some ⟨w8.heap.size + 1, 0, none⟩) 5 5] 37))
      fun e w' => e = .returned (.int .u32 3808858755) ∧ w' = (((w8.alloc (.cells (fourL.map bv).toArray 5 (4, 5))).alloc (.cells (fiveL.map bv).toArray 5 (5, 6))).alloc (.cells #[.slice (some ⟨w8.heap.size, 0, none⟩) 4 4, .slice (some ⟨w8.heap.size + 1, 0, none⟩) 5 5] 37))) := crc_two w8
  go_wp2_with fail
  refine HCr.out.mono ?_
  rintro e w9 ⟨rfl, hw⟩
  rw [hw]; clear hw
  go_wp2
  go_ret
  have hb := HB8.out
  have hz := hb.size
  exact ⟨rfl, ((hb.alloc hz _).alloc (by simp; omega) _).alloc (by simp; omega) _⟩
end Go.Proofs.YtpkobgnbjmefnabDoor
