import Derived.Test.YtpchllepboolhaazSB
import Derived.Test.YtpchllepboolhaaSQ
namespace Go.Proofs.Ytpchllepboolhaa.D
open Go.RowKit Go.Proofs.Ytpchllepboolhaa.I
attribute [local go_sem] Oper.semAt_some
set_option linter.unusedVariables false
set_option linter.unusedSimpArgs false
set_option maxRecDepth 100000

set_option maxHeartbeats 8000000 in
theorem lawSeen_any (ao ao2 : Option Addr) (c m c2 m2 : Nat) (l l2 : List Ac) (leave : Int) (w : World) (HM : Hid (m = l.length)) (HM2 : Hid (m2 = l2.length)) (hl : m ≤ 1048576) (hl2 : m2 ≤ 1048576) (HA : Hid (ARow w ao l)) (HA2 : Hid (ARow w ao2 l2)) (HW : Hid (∀ x ∈ l, wfK x.2)) (HW2 : Hid (∀ x ∈ l2, wfK x.2)) :
    Calls Try.prog 7 #[.slice ao m c, .slice ao2 m2 c2, .int .i64 leave] w fun e w' => e = .returned (.bool true) ∧ Below w.heap.size w w' := by
  refine (callsIn_wide (n := 6)).1 ?_
  have f0 : Fence.wide.fn 7 := trivial
  have f1 : Fence.wide.fn 38 := trivial
  have f2 : Fence.wide.fn 87 := trivial
  have f3 : Fence.wide.fn 44 := trivial
  have f4 : Fence.wide.fn 10 := trivial
  refine callsIn_of_wp_marks Try.func7 rfl f0 ?_ rfl
  simp only [Try.ntmps7, List.size_toArray, List.length_cons, List.length_nil, Nat.reduceAdd, Nat.reduceSub, Array.replicate_succ, Array.replicate_zero, List.push_toArray, List.append_toArray, List.nil_append, List.cons_append]
  have h1 : 1 ≤ 6 := by omega
  have stF : ∀ (X : World) (p : Addr) (m : Mode) (fn : Fn) (fa fb : Array Value), (store p (.func fn fa fb) m).run Try.prog X = stored Try.prog X p (.func fn fa fb) m := fun X p m fn fa fb => run_store Try.prog X p _ m rfl
  gi_wp2_with (gi_at_call 38; refine (callsIn_wide.2 (built2_any ao c m l _ HM (by omega) ?_ HW)).mono ?_; rotate_left; rintro e w0 ⟨bo, bm, g, rfl, ho⟩)
  case refine_1 => exact HA.out.later ((((Below.refl _ w).alloc (Nat.le_refl _) _).alloc (by simp) _).alloc (by simp; omega) _)
  obtain ⟨W3, hW3⟩ : ∃ W3, W3 = (((w.alloc (Obj.cells #[Value.slice ao2 m2 c2] 22)).alloc (Obj.cells #[Value.int IntKind.i64 leave] 3)).alloc (Obj.cells #[Value.bool false] 4)) := ⟨_, rfl⟩
  rw [← hW3] at ho
  obtain ⟨wA, hwA⟩ : ∃ wA, wA = (((w0.alloc (Obj.cells #[Value.pointer (some ⟨bo, 0, none⟩)] 23)).alloc (Obj.cells #[Value.bool true, Value.slice none 0 0] TDo)).alloc (Obj.cells #[Value.pointer (some ⟨w0.heap.size + 1, 0, none⟩)] 25)) := ⟨_, rfl⟩
  rw [← hwA]
  obtain ⟨bd, hbd⟩ : ∃ bd, bd = w0.heap.size + 1 := ⟨_, rfl⟩
  have hsA : wA.heap.size = w0.heap.size + 3 := by rw [hwA]; simp
  have hB3 : Below w.heap.size w W3 := by rw [hW3]; exact ((((Below.refl _ w).alloc (Nat.le_refl _) _).alloc (by simp) _).alloc (by simp; omega) _)
  have hs3 : W3.heap.size = w.heap.size + 3 := by rw [hW3]; simp
  have hB0 : Below w.heap.size w w0 := hB3.trans (ho.below.mono hB3.size)
  have hs0 : W3.heap.size ≤ w0.heap.size := ho.below.size
  have hBA0 : Below w0.heap.size w0 wA := by rw [hwA]; exact ((((Below.refl _ w0).alloc (Nat.le_refl _) _).alloc (by simp) _).alloc (by simp; omega) _)
  have hBA : Below w.heap.size w wA := hB0.trans (hBA0.mono hB0.size)
  have bx8 : Boxed wA (w0.heap.size + 1 + 1) 25 (.pointer (some ⟨bd, 0, none⟩)) := by
    have := Boxed.new ((w0.alloc (Obj.cells #[Value.pointer (some ⟨bo, 0, none⟩)] 23)).alloc (Obj.cells #[Value.bool true, Value.slice none 0 0] TDo)) 25 (.pointer (some ⟨bd, 0, none⟩))
    rw [World.size_alloc, World.size_alloc] at this
    rw [hwA, ← hbd]; rw [← hbd] at this; exact this
  have blkd : wA.heap[bd]? = some (.cells #[.bool true, .slice none 0 0] TDo) := by
    have h1 := heap_alloc_new (w0.alloc (Obj.cells #[Value.pointer (some ⟨bo, 0, none⟩)] 23)) (Obj.cells #[Value.bool true, Value.slice none 0 0] TDo)
    rw [World.size_alloc, ← hbd] at h1
    rw [hwA]
    exact (Below.heap_alloc _ _ _ (by rw [hbd]; simp)).trans h1
  have HD0 : Hid (Dn wA wA bd []) := ⟨Kp.refl _ _, .slice none 0 0, ⟨blkd, World.ownsRow_nil _ _ _ _, by simp, by simp⟩, fun i hi => by simp [fpd, Value.ownBlock] at hi; exact .inl hi⟩
  have HCd : Hid (∀ (X : World) (A : List It), Dn wA X bd A → X.cell? ⟨w0.heap.size + 1 + 1, 0, none⟩ = some (.pointer (some ⟨bd, 0, none⟩))) := fun X A h => (World.cell?_of_block (h.1.block (w0.heap.size + 1 + 1) (by omega) (by simp; omega))).trans bx8.cell
  have HBd : Hid (∀ (X : World) (A : List It), Dn wA X bd A → Below w.heap.size w X) := fun X A h => hBA.trans (h.1.below (fun i hi => by simp at hi; have := hB3.size; omega) hBA.size)
  have HO : Hid (Os W3 w0 bo bm g (pl l [])) := ho
  have HB0 : Hid (Below w0.heap.size w0 wA) := hBA0
  have HX8 : Hid (Boxed wA (w0.heap.size + 1 + 1) 25 (.pointer (some ⟨bd, 0, none⟩))) := bx8
  have HE3 : Hid (W3 = (((w.alloc (Obj.cells #[Value.slice ao2 m2 c2] 22)).alloc (Obj.cells #[Value.int IntKind.i64 leave] 3)).alloc (Obj.cells #[Value.bool false] 4))) := hW3
  have HEA : Hid (wA = (((w0.alloc (Obj.cells #[Value.pointer (some ⟨bo, 0, none⟩)] 23)).alloc (Obj.cells #[Value.bool true, Value.slice none 0 0] TDo)).alloc (Obj.cells #[Value.pointer (some ⟨w0.heap.size + 1, 0, none⟩)] 25))) := hwA
  have HBD : Hid (bd = w0.heap.size + 1) := hbd
  have HB3 : Hid (Below w.heap.size w W3) := hB3
  clear hW3 hwA hbd ho blkd hBA0 bx8 hBA hB0 hB3
  gi_loopw [9] (fun i wr => ∃ (k : Nat), k ≤ m ∧ i = .int .i64 k ∧ Hid (Dn wA wr bd (pl (l.take k) []))) (fun i _ => m - (intOf i).toNat)
  case atStart => exact ⟨0, Nat.zero_le _, rfl, HD0⟩
  case round =>
    obtain ⟨k, hk, rfl, HK⟩ := hrel
    by_cases hlt : k < m
    · obtain ⟨x, hx⟩ : ∃ x, l[k]? = some x := ⟨_, List.getElem?_eq_getElem (by have := HM.out; omega)⟩
      obtain ⟨b, off, rfl, c0, c1⟩ := HA.out.c _ _ hx
      have HC : Hid (∀ X A, Dn wA X bd A → X.cell? ⟨w0.heap.size + 1 + 1, 0, none⟩ = some (.pointer (some ⟨bd, 0, none⟩)) ∧ X.cell? ⟨b, off + k * 2, none⟩ = some (.int .i64 x.1) ∧ X.cell? ⟨b, off + k * 2 + 1, none⟩ = some (.int .i64 x.2)) := fun X A hX => ⟨HCd.out X A hX, cell_later (HBd.out X A hX) c0, cell_later (HBd.out X A hX) c1⟩
      have hcr := HC.out wr _ HK.out
      have hcr8 := hcr.1
      have hcr0 := hcr.2.1
      have hcr1 := hcr.2.2
      have hwf : Hid (wfK x.2) := HW.out x (List.mem_of_getElem? hx)
      have d1 : (k : Int) < (m : Int) := by omega
      have hlen : Hid ((pl (l.take k) []).length < 8796093022208) := by
        have := pl_len (l.take k) []
        rw [List.length_take] at this
        simp at this
        show _ < _
        omega
      have HS : Hid (stp x.1 x.2 (pl (l.take k) []) = pl (l.take (k + 1)) []) := by show _ = _; rw [← pl_snoc, ← take_ac hx]
      clear c0 c1 hx hcr
      gi_wp2
      refine wpIn_wide.2 ?_
      go_region_held3 (fun w' => w'.cell? ⟨w0.heap.size + 1 + 1, 0, none⟩ = some (.pointer (some ⟨bd, 0, none⟩)) ∧ w'.cell? ⟨b, off + k * 2, none⟩ = some (.int .i64 x.1) ∧ w'.cell? ⟨b, off + k * 2 + 1, none⟩ = some (.int .i64 x.2)) (first | go_keep | exact HC.out _ _ H6.out | exact HC.out _ _ H5.out) (first | (go_at_call 9; refine (new_any _).mono ?_; rintro e w5 ⟨bo5, bm5, g5, rfl, h5, hb5, hf5⟩; have hb5' : Below wr.heap.size wr w5 := ⟨hb5.os, hb5.tape, hb5.output, hb5.size, hb5.block⟩; have H5 : Hid (Dn wA w5 bd (pl (l.take k) [])) := HK.out.later hb5'; have hpl := HK.out.play hb5' h5 hf5 x.1 x.2 hwf.out hlen.out; rw [HS.out] at hpl; clear h5 hb5 hf5 hb5') | (go_at_call 10; refine hpl.mono ?_; rintro e w6 ⟨b6, rfl, h6⟩; have H6 : Hid (Dn wA w6 bd (pl (l.take (k + 1)) [])) := h6; clear h6))
      gi_wp2
      go_roundw
      case rel => exact ⟨k + 1, by omega, by go_num, H6⟩
      case measure => simp [intOf]; omega
    · have e : k = m := by omega
      subst e
      have HE : Hid (l.take k = l) := by rw [HM.out]; exact List.take_length
      rw [HE.out] at HK
      clear HE hlt hk HD0
      obtain ⟨L, hRO0, hLA, hOb, hOf⟩ := HO.out
      have hbdo : ∀ i ∈ fp bo bm g L, i ≠ bd := fun i hi e => by have := hRO0.lt i hi; have := HBD.out; omega
      have hROr : RO wr bo bm g L := (hRO0.later HB0.out).kept HK.out.1 fun i hi hf => hbdo i hi (by simpa using hf)
      obtain ⟨hKr, v0, hRDr, hfd0⟩ := HK.out
      rw [← hLA] at hRDr
      have HST : Hid (St wr bo bm g L bd v0) := ⟨hROr, hRDr⟩
      have HOW : Hid (∀ i ∈ fp bo bm g L ++ fpd bd v0, w.heap.size ≤ i) := fun i hi => by
        rcases List.mem_append.1 hi with h | h
        · have := hOf i h; omega
        · rcases hfd0 i h with e | e
          · have := HBD.out; omega
          · omega
      have HKA : Hid (Kp wA wr [bd]) := hKr
      have HLA : Hid (L.map I.kp = pl l []) := hLA
      have hLl : L.length ≤ 1048576 := by
        have h1 := pl_len l []
        rw [← hLA, List.length_map, ← HM.out] at h1
        simp at h1
        omega
      obtain ⟨ks, hks⟩ : ∃ ks, ks = keysOf (L.map I.kp) := ⟨_, rfl⟩
      obtain ⟨fs, hfs⟩ : ∃ fs, fs = freeOf (L.map I.kp) := ⟨_, rfl⟩
      obtain ⟨km, hkm⟩ : ∃ km, km = ks.length := ⟨_, rfl⟩
      obtain ⟨fm, hfm⟩ : ∃ fm, fm = fs.length := ⟨_, rfl⟩
      have HAd : Hid (∀ X, Below wr.heap.size wr X → Calls Try.prog 27 #[.pointer (some ⟨bd, 0, none⟩)] X fun r w' => ∃ a c, r = .returned (.slice a km c) ∧ IRB wr.heap.size w' a ks ∧ Below X.heap.size X w') := fun X hX => by
        refine (all_any (hRDr.later hX)).mono ?_
        rintro r w' ⟨v, rfl, ho, hb⟩
        rw [← hks] at ho
        obtain ⟨a, c, rfl, hi⟩ := irb_of ho
        exact ⟨a, c, by rw [hkm], hi.keep hX.size (fun _ _ _ h => h), hb⟩
      have HFd : Hid (∀ X, Below wr.heap.size wr X → Calls Try.prog 44 #[.pointer (some ⟨bd, 0, none⟩)] X fun r w' => ∃ a c, r = .returned (.slice a fm c) ∧ Below X.heap.size X w') := fun X hX => by
        refine (free_any (hRDr.later hX)).mono ?_
        rintro r w' ⟨v, rfl, ho, hb⟩
        rw [← hfs] at ho
        obtain ⟨a, c, rfl, hi⟩ := irb_of ho
        exact ⟨a, c, by rw [hfm], hb⟩
      have HKS : Hid (ks = keysOf (L.map I.kp)) := hks
      have hkl : km ≤ 1048576 := by rw [hkm, hks]; simpa [keysOf] using hLl
      have hfl : fm ≤ km := by rw [hfm, hkm, hfs, hks]; simpa [keysOf] using freeOf_le (L.map I.kp)
      have HKM : Hid (km = ks.length) := hkm
      have hc8 : wr.cell? ⟨w0.heap.size + 1 + 1, 0, none⟩ = some (.pointer (some ⟨bd, 0, none⟩)) := HCd.out wr _ HK.out
      have HBw : Hid (Below w.heap.size w wr) := HBd.out wr _ HK.out
      have H8l : Hid (w0.heap.size + 1 + 1 < wr.heap.size) := by show _ < _; have := hKr.size; omega
      clear hks hfs hkm hfm hfd0 hRDr hROr hbdo hOf hOb hLA hRO0 hKr
      have HCd' : Hid (∀ X, Below wr.heap.size wr X → X.cell? ⟨w0.heap.size + 1 + 1, 0, none⟩ = some (.pointer (some ⟨bd, 0, none⟩))) := fun X hX => cell_later hX hc8
      have HBD0 : Hid (Below wr.heap.size wr wr.drew) := ⟨rfl, rfl, rfl, Nat.le_refl _, fun _ _ => rfl⟩
      have HBDa : Hid (Below wr.heap.size wr (wr.drew.alloc (.cells #[.slice none 0 0] 43))) := HBD0.out.alloc (Nat.le_refl _) _
      gi_wp2
      refine wpIn_mono (Q := fun e a' W => e = .normal ∧ ∃ bk a3 c3 a4 c4, a' = { tmps := #[.slice ao k c, .slice ao2 m2 c2, .int .i64 leave, undef, .pointer (some ⟨w.heap.size, 0, none⟩), .pointer (some ⟨w.heap.size + 1, 0, none⟩), .pointer (some ⟨w.heap.size + 1 + 1, 0, none⟩), .pointer (some ⟨w0.heap.size, 0, none⟩), .pointer (some ⟨w0.heap.size + 1 + 1, 0, none⟩), .int .i64 k, .pointer (some ⟨bk, 0, none⟩), .slice a4 fm c4, undef, undef, undef, undef, undef, undef, undef, .slice ao k c, .pointer (some ⟨bo, 0, none⟩), .agg #[.bool true, .slice none 0 0], .pointer (some ⟨w0.heap.size + 1, 0, none⟩), .pointer (some ⟨bo, 0, none⟩), .bool false, .int .i64 k, .slice ao k c, .int .i64 k, .bool false, u29, u30, u31, u32, u33, u34, u35, u36, u37, .pointer (some ⟨bd, 0, none⟩), .slice a3 km c3, .pointer (some ⟨bd, 0, none⟩), .slice a4 fm c4, undef, undef, undef, undef, undef, undef, undef, undef, undef, undef, undef, undef, undef, undef, undef, undef, undef, undef, undef, undef, undef, undef, undef, undef, undef, undef, undef, undef, undef, undef, undef, undef, undef, undef, undef, undef, undef, undef, undef, undef, undef, undef, undef, undef, undef, undef, undef, undef, undef, undef, undef, undef, undef, undef, undef, undef, undef, undef, undef, undef, undef, undef, undef, undef, undef, undef, undef, undef, undef, undef, undef, undef, undef, undef, undef, undef, undef, undef, undef, undef, undef, undef, undef, undef, undef], defers := [] } ∧ Hid (Below wr.heap.size wr W) ∧ Hid (Boxed W bk 43 (.slice a3 km c3)) ∧ Hid (wr.heap.size ≤ bk) ∧ Hid (IRB wr.heap.size W a3 ks)) ?_ ?_
      · refine wpIn_wide.2 ?_
        go_region_held3 (fun w' => w'.cell? ⟨w0.heap.size + 1 + 1, 0, none⟩ = some (.pointer (some ⟨bd, 0, none⟩))) (first | go_keep | exact HCd'.out _ HB4.out | exact HCd'.out _ HB3.out | exact HCd'.out _ (HB4.out.alloc HB4.out.size _) | exact HCd'.out _ (HB4.out.setCell (Nat.le_refl _) _) | exact HCd'.out _ (HB4.out.setCell HB3.out.size _) | exact HCd'.out _ (HB3.out.alloc HB3.out.size _) | fail)
          (first
            | (go_at_call 27; refine (HAd.out wr.drew HBD0.out).mono ?_; rintro e w3 ⟨a3, c3, rfl, hi3, hb3⟩; have HB3 : Hid (Below wr.heap.size wr w3) := HBD0.out.trans (hb3.mono HBD0.out.size); have HI3 : Hid (IRB wr.heap.size w3 a3 ks) := hi3; clear hb3 hi3)
            | (go_at_call 27; refine (HAd.out (wr.drew.alloc (.cells #[.slice none 0 0] 43)) HBDa.out).mono ?_; rintro e w3 ⟨a3, c3, rfl, hi3, hb3⟩; have HB3 : Hid (Below wr.heap.size wr w3) := HBDa.out.trans (hb3.mono HBDa.out.size); have HI3 : Hid (IRB wr.heap.size w3 a3 ks) := hi3; have HX3 : Hid (Boxed w3 wr.heap.size 43 (.slice none 0 0)) := Boxed.later (Boxed.new wr.drew _ _) hb3; clear hb3 hi3)
            | (go_at_call 44; refine (HFd.out w3 HB3.out).mono ?_; rintro e w4 ⟨a4, c4, rfl, hb4⟩; have HB4 : Hid (Below wr.heap.size wr w4) := HB3.out.trans (hb4.mono HB3.out.size); have HI4 : Hid (IRB wr.heap.size w4 a3 ks) := HI3.out.later (Nat.le_refl _) hb4; have HX4 : Hid (Boxed w4 wr.heap.size 43 (.slice none 0 0)) := Boxed.later HX3.out hb4; have hc4 := HX4.out.cell; have hf4 := HX4.out.frozen; clear hb4)
            | (go_at_call 44; refine (HFd.out w3 HB3.out).mono ?_; rintro e w4 ⟨a4, c4, rfl, hb4⟩; have HB4 : Hid (Below wr.heap.size wr w4) := HB3.out.trans (hb4.mono HB3.out.size); have HI4 : Hid (IRB wr.heap.size w4 a3 ks) := HI3.out.later (Nat.le_refl _) hb4; clear hb4)
            | (go_at_call 44; refine (HFd.out (w3.alloc (.cells #[.slice none 0 0] 43)) (HB3.out.alloc HB3.out.size _)).mono ?_; rintro e w4 ⟨a4, c4, rfl, hb4⟩; have HB3' : Hid (Below wr.heap.size wr (w3.alloc (.cells #[.slice none 0 0] 43))) := HB3.out.alloc HB3.out.size _; have HB4 : Hid (Below wr.heap.size wr w4) := HB3'.out.trans (hb4.mono HB3'.out.size); have HI4 : Hid (IRB wr.heap.size w4 a3 ks) := (HI3.out.later (Nat.le_refl _) ((Below.refl _ w3).alloc (Nat.le_refl _) _)).later (Nat.le_refl _) hb4; have HX4 : Hid (Boxed w4 w3.heap.size 43 (.slice none 0 0)) := Boxed.later (Boxed.new w3 _ _) hb4; have hc4 := HX4.out.cell; have hf4 := HX4.out.frozen; clear hb4)
            | fail)
        all_goals first
          | exact ⟨rfl, _, _, _, _, _, rfl, HB4.out.setCell (Nat.le_refl _) _, HX4.out.set _, Nat.le_refl _, irb_put HI4.out HX4.out (by decide) _⟩
          | exact ⟨rfl, _, _, _, _, _, rfl, HB4.out.setCell HB3.out.size _, HX4.out.set _, HB3.out.size, irb_put HI4.out HX4.out (by decide) _⟩
          | exact ⟨rfl, _, _, _, _, _, rfl, HB4.out.alloc HB4.out.size _, Boxed.new _ _ _, HB4.out.size, HI4.out.later (Nat.le_refl _) ((Below.refl _ _).alloc (Nat.le_refl _) _)⟩
          | fail
      rintro _ _ wB ⟨rfl, bk, a3, c3, a4, c4, rfl, HBB, HXk, hbk, HIR⟩
      have bx7 : Boxed wr w0.heap.size 23 (.pointer (some ⟨bo, 0, none⟩)) := by
        have h1 : Boxed wA w0.heap.size 23 (.pointer (some ⟨bo, 0, none⟩)) := by rw [HEA.out]; exact ((Boxed.new w0 _ _).alloc _).alloc _
        exact Boxed.kp h1 HKA.out (by simp; have := HBD.out; omega)
      have HX7 : Hid (Boxed wr w0.heap.size 23 (.pointer (some ⟨bo, 0, none⟩))) := bx7
      have HC7 : Hid (∀ X, Below wB.heap.size wB X → X.cell? ⟨w0.heap.size, 0, none⟩ = some (.pointer (some ⟨bo, 0, none⟩))) := fun X hX => cell_later hX (Boxed.later HX7.out HBB.out).cell
      have hc7 := (Boxed.later HX7.out HBB.out).cell
      clear bx7 HBDa HBD0 hc8 HAd HFd
      have HBD0 : Hid (Below wB.heap.size wB wB.drew) := ⟨rfl, rfl, rfl, Nat.le_refl _, fun _ _ => rfl⟩
      have HBDa : Hid (Below wB.heap.size wB (wB.drew.alloc (.cells #[.nilFunc] 59))) := HBD0.out.alloc (Nat.le_refl _) _
      gi_wp2
      refine wpIn_mono (Q := fun e a' W => e = .normal ∧ ∃ bx e0 e1 g0 g1, a' = { tmps := #[.slice ao k c, .slice ao2 m2 c2, .int .i64 leave, undef, .pointer (some ⟨w.heap.size, 0, none⟩), .pointer (some ⟨w.heap.size + 1, 0, none⟩), .pointer (some ⟨w.heap.size + 1 + 1, 0, none⟩), .pointer (some ⟨w0.heap.size, 0, none⟩), .pointer (some ⟨w0.heap.size + 1 + 1, 0, none⟩), .int .i64 k, .pointer (some ⟨bk, 0, none⟩), .slice a4 fm c4, .func (.func 87) #[] #[.pointer (some ⟨e0, 0, none⟩), .pointer (some ⟨e1, 0, none⟩)], .pointer (some ⟨bx, 0, none⟩), undef, undef, undef, undef, undef, .slice ao k c, .pointer (some ⟨bo, 0, none⟩), .agg #[.bool true, .slice none 0 0], .pointer (some ⟨w0.heap.size + 1, 0, none⟩), .pointer (some ⟨bo, 0, none⟩), .bool false, .int .i64 k, .slice ao k c, .int .i64 k, .bool false, u29, u30, u31, u32, u33, u34, u35, u36, u37, .pointer (some ⟨bd, 0, none⟩), .slice a3 km c3, .pointer (some ⟨bd, 0, none⟩), .slice a4 fm c4, .pointer (some ⟨bo, 0, none⟩), .func (.func 87) #[] #[.pointer (some ⟨e0, 0, none⟩), .pointer (some ⟨e1, 0, none⟩)], .pointer (some ⟨bo, 0, none⟩), .func (.func 87) #[] #[.pointer (some ⟨g0, 0, none⟩), .pointer (some ⟨g1, 0, none⟩)], undef, undef, undef, undef, undef, undef, undef, undef, undef, undef, undef, undef, undef, undef, undef, undef, undef, undef, undef, undef, undef, undef, undef, undef, undef, undef, undef, undef, undef, undef, undef, undef, undef, undef, undef, undef, undef, undef, undef, undef, undef, undef, undef, undef, undef, undef, undef, undef, undef, undef, undef, undef, undef, undef, undef, undef, undef, undef, undef, undef, undef, undef, undef, undef, undef, undef, undef, undef, undef, undef, undef, undef, undef, undef, undef, undef, undef, undef, undef, undef, undef], defers := [] } ∧ Hid (Below wB.heap.size wB W) ∧ Hid (Boxed W bx 59 (.func (.func 87) #[] #[.pointer (some ⟨g0, 0, none⟩), .pointer (some ⟨g1, 0, none⟩)])) ∧ Hid (wB.heap.size ≤ bx) ∧ Hid (wB.heap.size ≤ e0 ∧ wB.heap.size ≤ e1 ∧ wB.heap.size ≤ g0 ∧ wB.heap.size ≤ g1) ∧ Hid (FnB W e0 e1 bo 73) ∧ Hid (FnB W g0 g1 bo 74)) ?_ ?_
      · refine wpIn_wide.2 ?_
        go_region_held3 (fun w' => w'.cell? ⟨w0.heap.size, 0, none⟩ = some (.pointer (some ⟨bo, 0, none⟩))) (first | go_keep | exact HC7.out _ HB4.out | exact HC7.out _ HB3.out | exact HC7.out _ (HB4.out.alloc HB4.out.size _) | exact HC7.out _ (HB4.out.setCell (Nat.le_refl _) _) | exact HC7.out _ (HB4.out.setCell HB3.out.size _) | exact HC7.out _ (HB3.out.alloc HB3.out.size _) | fail)
          (first
            | (go_at_call 45; refine (fn_all wB.drew bo).mono ?_; rintro e w3 ⟨e0, e1, rfl, he0, he1, hf3, hb3⟩; have HB3 : Hid (Below wB.heap.size wB w3) := HBD0.out.trans (hb3.mono HBD0.out.size); have HF3 : Hid (FnB w3 e0 e1 bo 73) := hf3; have HE3 : Hid (wB.heap.size ≤ e0 ∧ wB.heap.size ≤ e1) := ⟨he0, he1⟩; clear hb3 hf3 he0 he1)
            | (go_at_call 45; refine (fn_all (wB.drew.alloc (.cells #[.nilFunc] 59)) bo).mono ?_; rintro e w3 ⟨e0, e1, rfl, he0, he1, hf3, hb3⟩; have HB3 : Hid (Below wB.heap.size wB w3) := HBDa.out.trans (hb3.mono HBDa.out.size); have HF3 : Hid (FnB w3 e0 e1 bo 73) := hf3; have HE3 : Hid (wB.heap.size ≤ e0 ∧ wB.heap.size ≤ e1) := ⟨Nat.le_trans HBDa.out.size he0, Nat.le_trans HBDa.out.size he1⟩; have HX3 : Hid (Boxed w3 wB.heap.size 59 .nilFunc) := Boxed.later (Boxed.new wB.drew _ _) hb3; clear hb3 hf3 he0 he1)
            | (go_at_call 46; refine (fn_free w3 bo).mono ?_; rintro e w4 ⟨g0, g1, rfl, he0, he1, hf4, hb4⟩; have HB4 : Hid (Below wB.heap.size wB w4) := HB3.out.trans (hb4.mono HB3.out.size); have HF4 : Hid (FnB w4 e0 e1 bo 73) := HF3.out.later hb4; have HG4 : Hid (FnB w4 g0 g1 bo 74) := hf4; have HE4 : Hid (wB.heap.size ≤ e0 ∧ wB.heap.size ≤ e1 ∧ wB.heap.size ≤ g0 ∧ wB.heap.size ≤ g1) := ⟨HE3.out.1, HE3.out.2, Nat.le_trans HB3.out.size he0, Nat.le_trans HB3.out.size he1⟩; have HX4 : Hid (Boxed w4 wB.heap.size 59 .nilFunc) := Boxed.later HX3.out hb4; have hc4 := HX4.out.cell; have hf4' := HX4.out.frozen; clear hb4 hf4 he0 he1)
            | (go_at_call 46; refine (fn_free w3 bo).mono ?_; rintro e w4 ⟨g0, g1, rfl, he0, he1, hf4, hb4⟩; have HB4 : Hid (Below wB.heap.size wB w4) := HB3.out.trans (hb4.mono HB3.out.size); have HF4 : Hid (FnB w4 e0 e1 bo 73) := HF3.out.later hb4; have HG4 : Hid (FnB w4 g0 g1 bo 74) := hf4; have HE4 : Hid (wB.heap.size ≤ e0 ∧ wB.heap.size ≤ e1 ∧ wB.heap.size ≤ g0 ∧ wB.heap.size ≤ g1) := ⟨HE3.out.1, HE3.out.2, Nat.le_trans HB3.out.size he0, Nat.le_trans HB3.out.size he1⟩; clear hb4 hf4 he0 he1)
            | (go_at_call 46; refine (fn_free (w3.alloc (.cells #[.nilFunc] 59)) bo).mono ?_; rintro e w4 ⟨g0, g1, rfl, he0, he1, hf4, hb4⟩; have HB3' : Hid (Below wB.heap.size wB (w3.alloc (.cells #[.nilFunc] 59))) := HB3.out.alloc HB3.out.size _; have HB4 : Hid (Below wB.heap.size wB w4) := HB3'.out.trans (hb4.mono HB3'.out.size); have HF4 : Hid (FnB w4 e0 e1 bo 73) := (HF3.out.later ((Below.refl _ w3).alloc (Nat.le_refl _) _)).later hb4; have HG4 : Hid (FnB w4 g0 g1 bo 74) := hf4; have HE4 : Hid (wB.heap.size ≤ e0 ∧ wB.heap.size ≤ e1 ∧ wB.heap.size ≤ g0 ∧ wB.heap.size ≤ g1) := ⟨HE3.out.1, HE3.out.2, Nat.le_trans HB3'.out.size he0, Nat.le_trans HB3'.out.size he1⟩; have HX4 : Hid (Boxed w4 w3.heap.size 59 .nilFunc) := Boxed.later (Boxed.new w3 _ _) hb4; have hc4 := HX4.out.cell; have hf4' := HX4.out.frozen; clear hb4 hf4 he0 he1)
            | fail)
        all_goals first
          | exact ⟨rfl, _, _, _, _, _, rfl, HB4.out.setCell (Nat.le_refl _) _, HX4.out.set _, Nat.le_refl _, HE4.out, HF4.out.put HX4.out (by decide) (by decide) _, HG4.out.put HX4.out (by decide) (by decide) _⟩
          | exact ⟨rfl, _, _, _, _, _, rfl, HB4.out.setCell HB3.out.size _, HX4.out.set _, HB3.out.size, HE4.out, HF4.out.put HX4.out (by decide) (by decide) _, HG4.out.put HX4.out (by decide) (by decide) _⟩
          | exact ⟨rfl, _, _, _, _, _, rfl, HB4.out.alloc HB4.out.size _, Boxed.new _ _ _, HB4.out.size, HE4.out, HF4.out.later ((Below.refl _ _).alloc (Nat.le_refl _) _), HG4.out.later ((Below.refl _ _).alloc (Nat.le_refl _) _)⟩
          | fail
      rintro _ _ wC ⟨rfl, bx, e0, e1, g0, g1, rfl, HBC, HXx, hbx, hee, HFA, HFF⟩
      clear hc7 HC7 HBDa HBD0 HCd' HCd HBd
      gi_wp2
      obtain ⟨w1, hw1⟩ : ∃ w1, w1 = wC.alloc (.cells #[.int .i64 0] 3) := ⟨_, rfl⟩
      obtain ⟨bn, hbn⟩ : ∃ bn, bn = wC.heap.size := ⟨_, rfl⟩
      obtain ⟨D, hD⟩ : ∃ D, D = fp bo bm g L ++ fpd bd v0 := ⟨_, rfl⟩
      obtain ⟨kA, hkA⟩ : ∃ kA, kA = kys l ++ kys l2 := ⟨_, rfl⟩
      have hBC1 : Below wC.heap.size wC w1 := by rw [hw1]; exact (Below.refl _ _).alloc (Nat.le_refl _) _
      have hBB1 : Below wB.heap.size wB w1 := HBC.out.trans (hBC1.mono HBC.out.size)
      have hBr1 : Below wr.heap.size wr w1 := HBB.out.trans (hBB1.mono HBB.out.size)
      have hst1 : St w1 bo bm g L bd v0 := HST.out.later hBr1
      have hbn1 : bn < w1.heap.size := by rw [hw1, hbn]; simp
      have hbm1 : bm < w1.heap.size := Nat.lt_of_lt_of_le (HST.out.o.lt bm (by simp [fp])) hBr1.size
      have hDlt : ∀ i ∈ D, i < wr.heap.size := fun i hi => by rw [hD] at hi; exact HST.out.lt i hi
      have lift : ∀ {i : Nat} {T : TypeId} {v : Value}, Boxed W3 i T v → Boxed w1 i T v := fun h => by
        have hlt := h.lt
        have h2 := Boxed.later (Boxed.later h HO.out.below) HB0.out
        exact Boxed.later (Boxed.kp h2 HKA.out (by simp; have := HBD.out; omega)) hBr1
      have HQ : Hid (∀ X, Kp w1 X (bn :: D) → ∀ {i : Nat} {T : TypeId} {v : Value}, Boxed w1 i T v → Oth T → i ≠ bn → Boxed X i T v) := fun X hX i T v hb hT hn => Boxed.kp hb hX (by
        simp only [List.mem_cons, not_or]
        exact ⟨hn, by rw [hD]; exact not_fp hst1 hb hT⟩)
      have hrsz : w0.heap.size + 3 ≤ wr.heap.size := by have := HKA.out.size; omega
      have hszr := HBB.out.size
      have hszB := HBC.out.size
      have x4 : Boxed w1 w.heap.size 22 (.slice ao2 m2 c2) := lift (by rw [HE3.out]; exact ((Boxed.new w _ _).alloc _).alloc _)
      have x5 : Boxed w1 (w.heap.size + 1) 3 (.int .i64 leave) := lift (by
        have := Boxed.new (w.alloc (Obj.cells #[Value.slice ao2 m2 c2] 22)) 3 (.int .i64 leave)
        rw [World.size_alloc] at this
        rw [HE3.out]; exact this.alloc _)
      have x6 : Boxed w1 (w.heap.size + 1 + 1) 4 (.bool false) := lift (by
        have := Boxed.new ((w.alloc (Obj.cells #[Value.slice ao2 m2 c2] 22)).alloc (Obj.cells #[Value.int IntKind.i64 leave] 3)) 4 (.bool false)
        rw [World.size_alloc, World.size_alloc] at this
        rw [HE3.out]; exact this)
      have x7 : Boxed w1 w0.heap.size 23 (.pointer (some ⟨bo, 0, none⟩)) := Boxed.later HX7.out hBr1
      have x8 : Boxed w1 (w0.heap.size + 1 + 1) 25 (.pointer (some ⟨bd, 0, none⟩)) := Boxed.later (Boxed.kp HX8.out HKA.out (by simp; have := HBD.out; omega)) hBr1
      have xk : Boxed w1 bk 43 (.slice a3 km c3) := Boxed.later HXk.out hBB1
      have xx : Boxed w1 bx 59 (.func (.func 87) #[] #[.pointer (some ⟨g0, 0, none⟩), .pointer (some ⟨g1, 0, none⟩)]) := Boxed.later HXx.out hBC1
      have xA := HFA.out.later hBC1
      have xF := HFF.out.later hBC1
      have xI : IRB wr.heap.size w1 a3 ks := HIR.out.later (Nat.le_refl _) hBB1
      have hIlt : ∀ (i : Nat) (cur : Array Value), wB.heap[i]? = some (.cells cur TIn (0, 0)) → i < wB.heap.size := fun i cur h => (Array.getElem?_eq_some_iff.1 h).1
      have Q4 : Hid (∀ X, Kp w1 X (bn :: D) → X.cell? ⟨w.heap.size, 0, none⟩ = some (.slice ao2 m2 c2)) := fun X hX => (HQ.out X hX x4 (by decide) (by omega)).cell
      have Q5 : Hid (∀ X, Kp w1 X (bn :: D) → X.cell? ⟨w.heap.size + 1, 0, none⟩ = some (.int .i64 leave)) := fun X hX => (HQ.out X hX x5 (by decide) (by omega)).cell
      have Q6 : Hid (∀ X, Kp w1 X (bn :: D) → Boxed X (w.heap.size + 1 + 1) 4 (.bool false)) := fun X hX => HQ.out X hX x6 (by decide) (by omega)
      have Q7 : Hid (∀ X, Kp w1 X (bn :: D) → X.cell? ⟨w0.heap.size, 0, none⟩ = some (.pointer (some ⟨bo, 0, none⟩))) := fun X hX => (HQ.out X hX x7 (by decide) (by omega)).cell
      have Q8 : Hid (∀ X, Kp w1 X (bn :: D) → X.cell? ⟨w0.heap.size + 1 + 1, 0, none⟩ = some (.pointer (some ⟨bd, 0, none⟩))) := fun X hX => (HQ.out X hX x8 (by decide) (by omega)).cell
      have Qk : Hid (∀ X, Kp w1 X (bn :: D) → X.cell? ⟨bk, 0, none⟩ = some (.slice a3 km c3)) := fun X hX => (HQ.out X hX xk (by decide) (by have := HXk.out.lt; omega)).cell
      have Qx : Hid (∀ X, Kp w1 X (bn :: D) → X.cell? ⟨bx, 0, none⟩ = some (.func (.func 87) #[] #[.pointer (some ⟨g0, 0, none⟩), .pointer (some ⟨g1, 0, none⟩)])) := fun X hX => (HQ.out X hX xx (by decide) (by have := HXx.out.lt; omega)).cell
      have QF : Hid (∀ X, Kp w1 X (bn :: D) → FnB X g0 g1 bo 74) := fun X hX => ⟨HQ.out X hX xF.a (by decide) (by have := HFF.out.a.lt; omega), HQ.out X hX xF.b (by decide) (by have := HFF.out.b.lt; omega)⟩
      have QI : Hid (∀ X, Kp w1 X (bn :: D) → IRB wr.heap.size X a3 ks) := fun X hX => by
        rcases HIR.out.c with h | ⟨b, cur, h1, h2, h3, h4⟩
        · exact ⟨.inl h⟩
        · have hlt := hIlt b cur h3
          exact ⟨.inr ⟨b, cur, h1, h2, (hX.block b (by have := hBB1.size; omega) (by
            simp only [List.mem_cons, not_or]
            exact ⟨by omega, fun hd => by have := hDlt b hd; omega⟩)).trans ((hBB1.block b hlt).trans h3), h4⟩⟩
      have HBw1 : Hid (Below w.heap.size w w1) := HBw.out.trans (hBr1.mono HBw.out.size)
      have QB : Hid (∀ X, Kp w1 X (bn :: D) → Below w.heap.size w X) := fun X hX => HBw1.out.trans (hX.below (fun i hi => by
        rcases List.mem_cons.1 hi with e | e
        · have := HBw.out.size; omega
        · rw [hD] at e; exact HOW.out i e) HBw1.out.size)
      have QA : Hid (∀ X, Kp w1 X (bn :: D) → ARow X ao2 l2) := fun X hX => HA2.out.later (QB.out X hX)
      have HKA' : Hid (∀ x ∈ l2, x.2 ∈ kA) := fun x hx => by rw [hkA]; exact List.mem_append_right _ (List.mem_map.2 ⟨x, hx, rfl⟩)
      have hkAl : kA.length ≤ 2097152 := by
        rw [hkA, List.length_append]; simp only [kys, List.length_map]
        have := HM.out; have := HM2.out; omega
      have hn1 : Boxed w1 bn 3 (.int .i64 0) := by rw [hw1, hbn]; exact Boxed.new wC _ _
      have hJ1 : Jn w1 bn D kA bo bm g bd w1 := ⟨Kp.refl _ _, L, v0, hst1, fun x hx => by
        rw [HLA.out] at hx
        rcases pl_keys x hx with h | ⟨y, hy, _⟩
        · rw [hkA]; exact List.mem_append_left _ h
        · simp at hy, fun i hi => by rw [hD]; exact .inl hi⟩
      have hseq := A.seq_any (w := w1) 5 (by omega) (Kp := KpO bn) (Fine := fun k _ => k ≠ bn) ⟨fun h hf hc => ⟨h _ _ _ hf hc, hf⟩⟩ hst1.o xA.a.cell xA.b.cell xA.b.lt (by omega) (fun W w1' k hW hb hk hk2 => by have := hW.size; show k ≠ bn; omega)
      rw [picked_all, ← HKS.out, ← HKM.out] at hseq
      rw [← hw1, ← hbn]
      have HJ1 : Hid (Jn w1 bn D kA bo bm g bd w1) := hJ1
      have HN1 : Hid (Boxed w1 bn 3 (.int .i64 0)) := hn1
      have HDD : Hid (D = fp bo bm g L ++ fpd bd v0) := hD
      have hb6 : w.heap.size + 1 + 1 < w1.heap.size := x6.lt
      have hb6n : w.heap.size + 1 + 1 ≠ bn := by omega
      have hb6k : w.heap.size + 1 + 1 ≠ bk := by have := hbk.out; omega
      have hb67 : w.heap.size + 1 + 1 ≠ w0.heap.size := by omega
      have hb68 : w.heap.size + 1 + 1 ≠ w0.heap.size + 1 + 1 := by omega
      have hbnm : bn ≠ bm := by have := HST.out.o.lt bm (by simp [fp]); omega
      clear x4 x5 x6 x7 x8 xk xx xA xF xI hIlt hD hkA hw1 hbn hJ1 hn1 hst1 lift hBC1 hBB1 hBr1 hDlt HQ HKA HE3 HEA HB0 HO HX7 HX8 HXk HXx HFA HFF HIR hee hbx hbk
      refine wpIn_rangeFunc_ownH rfl (by omega) (gf := 87) (lb := #[.pointer (some ⟨e0, 0, none⟩), .pointer (some ⟨e1, 0, none⟩)]) rfl f2 (enters_of Try.func87 (by kernel_rfl) rfl)
        hseq KpO.trans (kpO_b (B := w1.heap.size)) (Below.refl _ _) (fun _ => rfl)
        (fun pre W => Boxed W bn 3 (.int .i64 pre.length) ∧ Jn w1 bn D kA bo bm g bd W)
        (fun c pre W => c = .ret ∧ ∃ (pre' : List Int) (x : Int), pre = pre' ++ [x] ∧ ks[pre'.length]? ≠ some x)
        (OwnFrom.and (Own.from (boxed_own bn 3 (fun (pre : List Int) => .int .i64 pre.length)) _) (Jn.own hbm1))
        (fun c => ownFrom_pure _ _)
        ⟨HN1.out, HJ1.out⟩
        (fun x a' W => a' = { tmps := #[.slice ao k c, .slice ao2 m2 c2, .int .i64 leave, undef, .pointer (some ⟨w.heap.size, 0, none⟩), .pointer (some ⟨w.heap.size + 1, 0, none⟩), .pointer (some ⟨w.heap.size + 1 + 1, 0, none⟩), .pointer (some ⟨w0.heap.size, 0, none⟩), .pointer (some ⟨w0.heap.size + 1 + 1, 0, none⟩), .int .i64 k, .pointer (some ⟨bk, 0, none⟩), .slice a4 fm c4, .func (.func 87) #[] #[.pointer (some ⟨e0, 0, none⟩), .pointer (some ⟨e1, 0, none⟩)], .pointer (some ⟨bx, 0, none⟩), .pointer (some ⟨bn, 0, none⟩), .int .i64 x, undef, undef, undef, .slice ao k c, .pointer (some ⟨bo, 0, none⟩), .agg #[.bool true, .slice none 0 0], .pointer (some ⟨w0.heap.size + 1, 0, none⟩), .pointer (some ⟨bo, 0, none⟩), .bool false, .int .i64 k, .slice ao k c, .int .i64 k, .bool false, u29, u30, u31, u32, u33, u34, u35, u36, u37, .pointer (some ⟨bd, 0, none⟩), .slice a3 km c3, .pointer (some ⟨bd, 0, none⟩), .slice a4 fm c4, .pointer (some ⟨bo, 0, none⟩), .func (.func 87) #[] #[.pointer (some ⟨e0, 0, none⟩), .pointer (some ⟨e1, 0, none⟩)], .pointer (some ⟨bo, 0, none⟩), .func (.func 87) #[] #[.pointer (some ⟨g0, 0, none⟩), .pointer (some ⟨g1, 0, none⟩)], .func (.func 87) #[] #[.pointer (some ⟨e0, 0, none⟩), .pointer (some ⟨e1, 0, none⟩)], .int .i64 x, undef, undef, undef, undef, undef, undef, undef, undef, undef, undef, undef, undef, undef, undef, undef, undef, undef, undef, undef, undef, undef, undef, undef, undef, undef, undef, undef, undef, undef, undef, undef, undef, undef, undef, undef, undef, undef, undef, undef, undef, undef, undef, undef, undef, undef, undef, undef, undef, undef, undef, undef, undef, undef, undef, undef, undef, undef, undef, undef, undef, undef, undef, undef, undef, undef, undef, undef, undef, undef, undef, undef, undef, undef, undef, undef, undef, undef, undef, undef], defers := [] })
        (fun x a' s X Y row hs hg hrow => hs)
        ?assign ?body ?done ?stop
      case assign =>
        rintro l pre x W K hI hK
        gi_wp2
        exact hK _ _ (KeepsFrom.refl _ _) (KpO.refl _ _) hI rfl
      case body =>
        rintro lr pre x a' W hlr ⟨rr, hrr⟩ ⟨hn, hJ⟩ rfl hlt
        have HJ : Hid (Jn w1 bn D kA bo bm g bd W) := hJ
        have HN : Hid (Boxed W bn 3 (.int .i64 pre.length)) := hn
        have cn := hn.cell
        have ck := Qk.out W hJ.kp
        have hz6 := (Q6.out W hJ.kp).cell
        have hy6 := (Q6.out W hJ.kp).frozen
        obtain ⟨y, hy⟩ : ∃ y, ks[pre.length]? = some y := ⟨_, List.getElem?_eq_getElem (by have := HKM.out; omega)⟩
        obtain ⟨b, hab, hcb⟩ := (QI.out W hJ.kp).cell hy
        subst hab
        have hge : (pre.length : Int) < (km : Int) := by omega
        have HY : Hid (ks[pre.length]? = some y) := hy
        have HLR : Hid (W.heap[lr]? = some (.loop rr)) := hrr
        obtain ⟨np, hnp⟩ : ∃ np, np = pre.length := ⟨_, rfl⟩
        rw [← hnp] at cn hge hcb hlt
        have HNP : Hid (np = pre.length) := hnp
        have hge2 : decide ((km : Int) ≤ (np : Int)) = false := decide_eq_false (by omega)
        have c8 := Q8.out (W.alloc (.cells #[.int .i64 0] 3)) (hJ.later ((Below.refl _ W).alloc (Nat.le_refl _) _)).kp
        obtain ⟨L5, v5, hst5, hl5⟩ := hJ.len
        obtain ⟨fs5, hfs5⟩ : ∃ fs5, fs5 = freeOf (L5.map I.kp) := ⟨_, rfl⟩
        obtain ⟨fm5, hfm5⟩ : ∃ fm5, fm5 = fs5.length := ⟨_, rfl⟩
        have hfl5 : fm5 ≤ 2097152 := by
          have := freeOf_le (L5.map I.kp)
          rw [hfm5, hfs5]; simp at this; omega
        have hX0 : Below W.heap.size W (W.alloc (.cells #[.int .i64 0] 3)) := (Below.refl _ W).alloc (Nat.le_refl _) _
        have HFr : Hid (Calls Try.prog 44 #[.pointer (some ⟨bd, 0, none⟩)] (W.alloc (.cells #[.int .i64 0] 3)) fun r w' => ∃ a c, r = .returned (.slice a fm5 c) ∧ IRB (W.heap.size + 1) w' a fs5 ∧ Below (W.heap.size + 1) (W.alloc (.cells #[.int .i64 0] 3)) w') := by
          refine (free_any (hst5.d.later hX0)).mono ?_
          rintro r w' ⟨v, rfl, ho, hb⟩
          rw [← hfs5, World.size_alloc] at ho
          rw [World.size_alloc] at hb
          obtain ⟨a, c, rfl, hi⟩ := irb_of ho
          exact ⟨a, c, by rw [hfm5], hi, hb⟩
        have HS5 : Hid (St W bo bm g L5 bd v5) := hst5
        have HFS : Hid (fs5 = freeOf (L5.map I.kp)) := hfs5
        have HFM : Hid (fm5 = fs5.length) := hfm5
        have HL5 : Hid (L5.length ≤ 2097152) := by show _ ≤ _; omega
        have HX0 : Hid (Below W.heap.size W (W.alloc (.cells #[.int .i64 0] 3))) := hX0
        have hmbw : w1.heap.size ≤ W.heap.size := hJ.kp.size
        clear hn hJ hy hrr hseq hnp hst5 hl5 hfs5 hfm5 hX0
        by_cases hxy : x = y
        · subst hxy
          have hne : (x != x) = false := by simp
          gi_wp2_with (gi_at_call 44; refine (CallsIn.inRound _ (callsIn_wide.2 HFr.out)).mono ?_; rintro e w5 ⟨a5, c5, rfl, hi5, hb5⟩; have HB5 : Hid (Below W.heap.size W w5) := HX0.out.trans (hb5.mono (Nat.le_succ _)); have HI5 : Hid (IRB (W.heap.size + 1) w5 a5 fs5) := hi5; have HX5 : Hid (Boxed w5 W.heap.size 3 (.int .i64 0)) := Boxed.later (Boxed.new W _ _) (by rw [World.size_alloc]; exact hb5); have hJ5 := HJ.out.later (HB5.out.alloc HB5.out.size (.cells #[.slice a5 fm5 c5] 43)); have cx5 := Qx.out (w5.alloc (.cells #[.slice a5 fm5 c5] 43)) hJ5.kp; clear hi5 hb5 hJ5)
          obtain ⟨w2, hw2⟩ : ∃ w2, w2 = w5.alloc (.cells #[.slice a5 fm5 c5] 43) := ⟨_, rfl⟩
          have hB52 : Below w5.heap.size w5 w2 := by rw [hw2]; exact (Below.refl _ _).alloc (Nat.le_refl _) _
          have hBW2 : Below W.heap.size W w2 := HB5.out.trans (hB52.mono HB5.out.size)
          have hs2 : w2.heap.size = w5.heap.size + 1 := by rw [hw2]; simp
          have hs5 : W.heap.size + 1 ≤ w5.heap.size := HX5.out.lt
          have hJ2 : Jn w1 bn D kA bo bm g bd w2 := HJ.out.later hBW2
          have hm2 : Boxed w2 W.heap.size 3 (.int .i64 0) := Boxed.later HX5.out hB52
          have h172 : Boxed w2 w5.heap.size 43 (.slice a5 fm5 c5) := by rw [hw2]; exact Boxed.new _ _ _
          have hI2 : IRB (W.heap.size + 1) w2 a5 fs5 := HI5.out.later (Nat.le_refl _) hB52
          have hlr2 : w2.heap[lr]? = some (.loop rr) := (hBW2.block lr (Array.getElem?_eq_some_iff.1 HLR.out).1).trans HLR.out
          have hF2 := QF.out w2 hJ2.kp
          have hseq2 := F.seq_any (w := w2) 3 (by omega) (Kp := KpO W.heap.size) (Fine := fun k _ => k ≠ W.heap.size) ⟨fun h hf hc => ⟨h _ _ _ hf hc, hf⟩⟩ (HS5.out.later hBW2).o hF2.a.cell hF2.b.cell hF2.b.lt (by have := HL5.out; omega) (fun X w1' k hX hb hk hk2 => by have := hX.size; show k ≠ W.heap.size; omega)
          rw [picked_free, ← HFS.out, ← HFM.out] at hseq2
          rw [← hw2]
          have HJ2 : Hid (Jn w1 bn D kA bo bm g bd w2) := hJ2
          have HM2' : Hid (Boxed w2 W.heap.size 3 (.int .i64 0)) := hm2
          have H17 : Hid (Boxed w2 w5.heap.size 43 (.slice a5 fm5 c5)) := h172
          have HI2 : Hid (IRB (W.heap.size + 1) w2 a5 fs5) := hI2
          have HBW2 : Hid (Below W.heap.size W w2) := hBW2
          have HJK : Hid (∀ X, Kp w2 X [W.heap.size] → Jn w1 bn D kA bo bm g bd X) := fun X hX => HJ2.out.stay hX fun i hi => by
            have e : i = W.heap.size := by simpa using hi
            subst e
            exact ⟨.inr hmbw, _, HM2'.out, fun cs T e => by cases e; decide, by omega⟩
          clear hw2 hB52 hBW2 hJ2 hm2 h172 hI2 hF2 cx5 HFr
          refine wpIn_mono (Q := fun e a' X => (e = .normal ∨ e = .exit 4) ∧ a' = { tmps := #[.slice ao k c, .slice ao2 m2 c2, .int .i64 leave, undef, .pointer (some ⟨w.heap.size, 0, none⟩), .pointer (some ⟨w.heap.size + 1, 0, none⟩), .pointer (some ⟨w.heap.size + 1 + 1, 0, none⟩), .pointer (some ⟨w0.heap.size, 0, none⟩), .pointer (some ⟨w0.heap.size + 1 + 1, 0, none⟩), .int .i64 k, .pointer (some ⟨bk, 0, none⟩), .slice a4 fm c4, .func (.func 87) #[] #[.pointer (some ⟨e0, 0, none⟩), .pointer (some ⟨e1, 0, none⟩)], .pointer (some ⟨bx, 0, none⟩), .pointer (some ⟨bn, 0, none⟩), .int .i64 x, .pointer (some ⟨W.heap.size, 0, none⟩), .pointer (some ⟨w5.heap.size, 0, none⟩), undef, .slice ao k c, .pointer (some ⟨bo, 0, none⟩), .agg #[.bool true, .slice none 0 0], .pointer (some ⟨w0.heap.size + 1, 0, none⟩), .pointer (some ⟨bo, 0, none⟩), .bool false, .int .i64 k, .slice ao k c, .int .i64 k, .bool false, u29, u30, u31, u32, u33, u34, u35, u36, u37, .pointer (some ⟨bd, 0, none⟩), .slice (some ⟨b, 0, none⟩) km c3, .pointer (some ⟨bd, 0, none⟩), .slice a4 fm c4, .pointer (some ⟨bo, 0, none⟩), .func (.func 87) #[] #[.pointer (some ⟨e0, 0, none⟩), .pointer (some ⟨e1, 0, none⟩)], .pointer (some ⟨bo, 0, none⟩), .func (.func 87) #[] #[.pointer (some ⟨g0, 0, none⟩), .pointer (some ⟨g1, 0, none⟩)], .func (.func 87) #[] #[.pointer (some ⟨e0, 0, none⟩), .pointer (some ⟨e1, 0, none⟩)], .int .i64 x, .int .i64 np, .slice (some ⟨b, 0, none⟩) km c3, .int .i64 km, .bool false, .bool false, .int .i64 x, .slice (some ⟨b, 0, none⟩) km c3, .int .i64 np, .pointer (some ⟨b, np, none⟩), .int .i64 x, .bool false, .bool false, .pointer (some ⟨bd, 0, none⟩), .slice a5 fm5 c5, .func (.func 87) #[] #[.pointer (some ⟨g0, 0, none⟩), .pointer (some ⟨g1, 0, none⟩)], undef, undef, undef, undef, undef, undef, undef, undef, undef, undef, undef, undef, undef, undef, undef, undef, undef, undef, undef, undef, undef, undef, undef, undef, undef, undef, undef, undef, undef, undef, undef, undef, undef, undef, undef, undef, undef, undef, undef, undef, undef, undef, undef, undef, undef, undef, undef, undef, undef, undef, undef, undef, undef, undef, undef, undef, undef, undef, undef, undef, undef, undef, undef, undef], defers := [] } ∧ ∃ j : Nat, Hid (Boxed X W.heap.size 3 (.int .i64 j)) ∧ Hid (Kp w2 X [W.heap.size]) ∧ j ≤ fm5 ∧ (j = fm5 ∨ (j : Int) = leave)) ?inner ?rest
          case inner =>
            refine wpIn_rangeFunc_ownN (l₀ := lr) (r₀ := rr) rfl hlr2 (by omega) (gf := 87) (lb := #[.pointer (some ⟨g0, 0, none⟩), .pointer (some ⟨g1, 0, none⟩)]) rfl trivial (enters_of Try.func87 (by kernel_rfl) rfl)
              (hseq2.inRound lr) KpO.trans (kpO_b (B := w2.heap.size)) (Below.refl _ _) (fun _ => rfl)
              (fun pre2 X => Boxed X W.heap.size 3 (.int .i64 pre2.length) ∧ Kp w2 X [W.heap.size])
              (fun c pre2 X => (c = .exit 4 ∧ (pre2.length : Int) = leave ∧ pre2.length ≤ fm5) ∧ (Boxed X W.heap.size 3 (.int .i64 pre2.length) ∧ Kp w2 X [W.heap.size]) ∨ (c = .ret ∧ ∃ (pre' : List Int) (x : Int), pre2 = pre' ++ [x] ∧ fs5[pre'.length]? ≠ some x))
              (OwnFrom.and (Own.from (boxed_own W.heap.size 3 (fun (pre : List Int) => .int .i64 pre.length)) _) kp_own)
              (fun c => own_or (OwnFrom.and (ownFrom_pure _ _) (OwnFrom.and (Own.from (boxed_own W.heap.size 3 (fun (pre : List Int) => .int .i64 pre.length)) _) kp_own)) (ownFrom_pure _ _))
              ⟨HM2'.out, Kp.refl _ _⟩
              (fun q a' X => a' = { tmps := #[.slice ao k c, .slice ao2 m2 c2, .int .i64 leave, undef, .pointer (some ⟨w.heap.size, 0, none⟩), .pointer (some ⟨w.heap.size + 1, 0, none⟩), .pointer (some ⟨w.heap.size + 1 + 1, 0, none⟩), .pointer (some ⟨w0.heap.size, 0, none⟩), .pointer (some ⟨w0.heap.size + 1 + 1, 0, none⟩), .int .i64 k, .pointer (some ⟨bk, 0, none⟩), .slice a4 fm c4, .func (.func 87) #[] #[.pointer (some ⟨e0, 0, none⟩), .pointer (some ⟨e1, 0, none⟩)], .pointer (some ⟨bx, 0, none⟩), .pointer (some ⟨bn, 0, none⟩), .int .i64 x, .pointer (some ⟨W.heap.size, 0, none⟩), .pointer (some ⟨w5.heap.size, 0, none⟩), .int .i64 q, .slice ao k c, .pointer (some ⟨bo, 0, none⟩), .agg #[.bool true, .slice none 0 0], .pointer (some ⟨w0.heap.size + 1, 0, none⟩), .pointer (some ⟨bo, 0, none⟩), .bool false, .int .i64 k, .slice ao k c, .int .i64 k, .bool false, u29, u30, u31, u32, u33, u34, u35, u36, u37, .pointer (some ⟨bd, 0, none⟩), .slice (some ⟨b, 0, none⟩) km c3, .pointer (some ⟨bd, 0, none⟩), .slice a4 fm c4, .pointer (some ⟨bo, 0, none⟩), .func (.func 87) #[] #[.pointer (some ⟨e0, 0, none⟩), .pointer (some ⟨e1, 0, none⟩)], .pointer (some ⟨bo, 0, none⟩), .func (.func 87) #[] #[.pointer (some ⟨g0, 0, none⟩), .pointer (some ⟨g1, 0, none⟩)], .func (.func 87) #[] #[.pointer (some ⟨e0, 0, none⟩), .pointer (some ⟨e1, 0, none⟩)], .int .i64 x, .int .i64 np, .slice (some ⟨b, 0, none⟩) km c3, .int .i64 km, .bool false, .bool false, .int .i64 x, .slice (some ⟨b, 0, none⟩) km c3, .int .i64 np, .pointer (some ⟨b, np, none⟩), .int .i64 x, .bool false, .bool false, .pointer (some ⟨bd, 0, none⟩), .slice a5 fm5 c5, .func (.func 87) #[] #[.pointer (some ⟨g0, 0, none⟩), .pointer (some ⟨g1, 0, none⟩)], .int .i64 q, undef, undef, undef, undef, undef, undef, undef, undef, undef, undef, undef, undef, undef, undef, undef, undef, undef, undef, undef, undef, undef, undef, undef, undef, undef, undef, undef, undef, undef, undef, undef, undef, undef, undef, undef, undef, undef, undef, undef, undef, undef, undef, undef, undef, undef, undef, undef, undef, undef, undef, undef, undef, undef, undef, undef, undef, undef, undef, undef, undef, undef, undef, undef], defers := [] })
              (fun x a' s X Y row hs hg hrow => hs)
              ?assign2 ?body2 ?done2 ?stop2
            case assign2 =>
              rintro l pre x W K hI hK
              gi_wp2
              exact hK _ _ (KeepsFrom.refl _ _) (KpO.refl _ _) hI rfl
            case body2 =>
              rintro lr2 pre2 q a2 X hlr3 _ ⟨hm, hk⟩ rfl hlt2
              have hJX := HJK.out X hk
              have cm := hm.cell
              have fmz := hm.frozen
              have c17 := (Boxed.kp H17.out hk (by simp; omega)).cell
              have cl := Q5.out X hJX.kp
              have hz6x := (Q6.out X hJX.kp).cell
              have hy6x := (Q6.out X hJX.kp).frozen
              obtain ⟨y2, hy2⟩ : ∃ y2, fs5[pre2.length]? = some y2 := ⟨_, List.getElem?_eq_getElem (by have := HFM.out; omega)⟩
              obtain ⟨b2, hab2, hcb2⟩ := (HI2.out.kp hk (by simp)).cell hy2
              subst hab2
              have HY2 : Hid (fs5[pre2.length]? = some y2) := hy2
              have HMX : Hid (Boxed X W.heap.size 3 (.int .i64 pre2.length)) := hm
              have HKX : Hid (Kp w2 X [W.heap.size]) := hk
              have H6X : Hid (Boxed X (w.heap.size + 1 + 1) 4 (.bool false)) := Q6.out X hJX.kp
              have HPX : Hid (∀ v, Boxed (X.setCell ⟨W.heap.size, 0, none⟩ v) W.heap.size 3 v ∧ Kp w2 (X.setCell ⟨W.heap.size, 0, none⟩ v) [W.heap.size] ∧ KeepsFrom w2.heap.size X (X.setCell ⟨W.heap.size, 0, none⟩ v) ∧ KpO W.heap.size X (X.setCell ⟨W.heap.size, 0, none⟩ v)) := fun v => ⟨HMX.out.set v, HKX.out.set (.inl (by simp)) v, keeps_of_kp (kp_put X _ v) (fun i hi => .inr (by have e : i = W.heap.size := (by simpa using hi); subst e; exact ⟨_, _, _, HMX.out⟩)), KpO.of_kp (kp_put X _ v) (fun i hi => .inl (by simpa using hi))⟩
              have HLL : Hid (∀ z : Int, (pre2 ++ [z]).length = pre2.length + 1) := fun z => by simp
              have HLe : Hid (pre2.length + 1 ≤ fm5) := by show _ ≤ _; omega
              obtain ⟨np2, hnp2⟩ : ∃ np2, np2 = pre2.length := ⟨_, rfl⟩
              rw [← hnp2] at cm hcb2 hlt2
              have HNP2 : Hid (np2 = pre2.length) := hnp2
              have hge3 : decide ((fm5 : Int) ≤ (np2 : Int)) = false := decide_eq_false (by omega)
              have hlt3 : (np2 : Int) < (fm5 : Int) := by omega
              have hbb2 : np2 + 1 ≤ 2097152 := by omega
              clear hm hk hJX hy2 hnp2 hlr3 hseq2
              by_cases hq : q = y2
              · subst hq
                have hne2 : (q != q) = false := by simp
                by_cases hlv : ((np2 : Int) + 1) = leave
                · have dl : ((np2 : Int) + 1 == leave) = true := by simpa using hlv
                  have HLV : Hid ((np2 : Int) + 1 = leave) := hlv
                  clear hlv
                  gi_wp2
                  obtain ⟨p1, p2, p3, p4⟩ := HPX.out (.int .i64 ((np2 : Int) + 1))
                  refine ⟨p3, .inl ⟨⟨rfl, ?_, ?_⟩, ?_, p2⟩⟩
                  · rw [HLL.out, ← HNP2.out]; have := HLV.out; omega
                  · rw [HLL.out]; exact HLe.out
                  · rw [HLL.out, ← HNP2.out]; exact p1
                · have dl : ((np2 : Int) + 1 == leave) = false := by simpa using hlv
                  gi_wp2
                  obtain ⟨p1, p2, p3, p4⟩ := HPX.out (.int .i64 ((np2 : Int) + 1))
                  refine ⟨p3, p4, ?_, p2⟩
                  rw [HLL.out, ← HNP2.out]; exact p1
              · have hne2 : (q != y2) = true := by simpa using hq
                gi_wp2
                exact ⟨keeps_of_kp (kp_put X _ _) (fun i hi => .inr (by have e : i = w.heap.size + 1 + 1 := (by simpa using hi); subst e; exact ⟨_, _, _, H6X.out⟩)), .inr ⟨rfl, pre2, q, rfl, fun e => hq (by rw [HY2.out] at e; simpa using e.symm)⟩⟩
            case done2 =>
              rintro xs X rfl ⟨hm, hk⟩
              exact ⟨.inl rfl, rfl, fm5, by rw [HFM.out]; exact hm, hk, Nat.le_refl _, .inl rfl⟩
            case stop2 =>
              rintro c2 pre2 X ⟨rest, hrest⟩ (⟨⟨rfl, hlv, hle⟩, hm, hk⟩ | ⟨rfl, pre', x', rfl, hne'⟩)
              · exact wpIn_exit ⟨.inr rfl, rfl, _, hm, hk, hle, .inr hlv⟩
              · exact absurd (by rw [hrest]; simp) hne'
          case rest =>
            rintro e _ X ⟨he, rfl, j, HMX, HKX, hjl, hj⟩
            have he2 : ∀ (Q : Exit → Go.Act → World → Prop) (a : Go.Act) (X : World), Exit.inBlock 4 Q .normal a X → Exit.inBlock 4 Q e a X := by
              intro Q a X h
              rcases he with rfl | rfl
              · exact h
              · simpa [Exit.inBlock] using h
            refine he2 _ _ _ ?_
            clear he he2
            have hJX := HJK.out X HKX.out
            have HJX : Hid (Jn w1 bn D kA bo bm g bd X) := hJX
            have cmX := HMX.out.cell
            have c17 := (Boxed.kp H17.out HKX.out (by simp; omega)).cell
            have cl := Q5.out X hJX.kp
            have HNX : Hid (Boxed X bn 3 (.int .i64 np)) := by
              have h1 := HN.out
              rw [← HNP.out] at h1
              exact Boxed.kp (Boxed.later h1 HBW2.out) HKX.out (by simp; omega)
            have HKFX : Hid (KeepsFrom w1.heap.size W X) := (keeps_of_kp (Kp.of_below HBW2.out []) (by simp)).trans (keeps_of_kp HKX.out (fun i hi => .inr (by have e : i = W.heap.size := (by simpa using hi); subst e; exact ⟨_, _, _, HM2'.out⟩)))
            have HKOX : Hid (KpO bn W X) := fun i cur fr hn hi => by
              have hlt := (Array.getElem?_eq_some_iff.1 hi).1
              exact (HKX.out.block i (Nat.lt_of_lt_of_le hlt HBW2.out.size) (by simp; omega)).trans ((HBW2.out.block i hlt).trans hi)
            obtain ⟨Cn, hCn⟩ : ∃ Cn : World → Prop, Cn = fun Y => Jn w1 bn D kA bo bm g bd Y ∧ Boxed Y bn 3 (.int .i64 np) ∧ KeepsFrom w1.heap.size X Y ∧ KpO bn X Y := ⟨_, rfl⟩
            have HPC : Hid (∀ p : CW Cn, Jn w1 bn D kA bo bm g bd p.x ∧ Boxed p.x bn 3 (.int .i64 np) ∧ KeepsFrom w1.heap.size X p.x ∧ KpO bn X p.x) := fun p => (iff_of_eq (congrFun hCn p.x)).1 p.h
            have HC0 : Hid (Cn X.drew) := by
              show Cn X.drew
              rw [hCn]
              have hd : Below X.heap.size X X.drew := ⟨rfl, rfl, rfl, Nat.le_refl _, fun _ _ => rfl⟩
              exact ⟨HJX.out.later hd, Boxed.later HNX.out hd, keeps_of_kp (Kp.of_below hd []) (by simp), KpO.of_kp (Kp.of_below hd []) (by simp)⟩
            have hinh : Nonempty (CW Cn) := ⟨⟨_, HC0.out⟩⟩
            have hp4 : ∀ p : CW Cn, p.x.cell? ⟨w.heap.size, 0, none⟩ = some (.slice ao2 m2 c2) := fun p => Q4.out p.x (HPC.out p).1.kp
            have hp7 : ∀ p : CW Cn, p.x.cell? ⟨w0.heap.size, 0, none⟩ = some (.pointer (some ⟨bo, 0, none⟩)) := fun p => Q7.out p.x (HPC.out p).1.kp
            have hp8 : ∀ p : CW Cn, p.x.cell? ⟨w0.heap.size + 1 + 1, 0, none⟩ = some (.pointer (some ⟨bd, 0, none⟩)) := fun p => Q8.out p.x (HPC.out p).1.kp
            have hpn : ∀ p : CW Cn, p.x.cell? ⟨bn, 0, none⟩ = some (.int .i64 np) := fun p => (HPC.out p).2.1.cell
            have hpf : ∀ p : CW Cn, p.x.frozen? ⟨bn, 0, none⟩ = false := fun p => (HPC.out p).2.1.frozen
            have HFin : Hid (∀ p : CW Cn, KeepsFrom w1.heap.size W (p.x.setCell ⟨bn, 0, none⟩ (.int .i64 ((np : Int) + 1))) ∧ KpO bn W (p.x.setCell ⟨bn, 0, none⟩ (.int .i64 ((np : Int) + 1))) ∧ Boxed (p.x.setCell ⟨bn, 0, none⟩ (.int .i64 ((np : Int) + 1))) bn 3 (.int .i64 ((pre ++ [x]).length : Nat)) ∧ Jn w1 bn D kA bo bm g bd (p.x.setCell ⟨bn, 0, none⟩ (.int .i64 ((np : Int) + 1)))) := fun p => by
              obtain ⟨q1, q2, q3, q4⟩ := HPC.out p
              refine ⟨HKFX.out.trans (q3.trans (keeps_of_kp (kp_put _ _ _) (fun i hi => .inl (by have e : i = bn := (by simpa using hi); omega)))), HKOX.out.trans (q4.trans (KpO.of_kp (kp_put _ _ _) (fun i hi => .inl (by simpa using hi)))), ?_, q1.stay (kp_put _ _ _) (fun i hi => by
                have e : i = bn := by simpa using hi
                subst e
                exact ⟨.inl rfl, _, q2, fun cs T e => by cases e; decide, fun e => hbnm e⟩)⟩
              have h1 := q2.set (.int .i64 ((np : Int) + 1))
              have e : (((pre ++ [x]).length : Nat) : Int) = (np : Int) + 1 := by rw [List.length_append, HNP.out]; simp
              rw [e]; exact h1
            have HPl : Hid (∀ (y : Ac), y ∈ l2 → ∀ p : CW Cn, Calls Try.prog 10 #[.pointer (some ⟨bo, 0, none⟩), .pointer (some ⟨bd, 0, none⟩), .agg #[.int .i64 y.1, .int .i64 y.2]] p.x fun e w'' => e = .returned (.bool true) ∧ ∃ p' : CW Cn, w'' = p'.x) := fun y hy p => by
              obtain ⟨q1, q2, q3, q4⟩ := HPC.out p
              refine (q1.play hbm1 y.1 y.2 (HW2.out y hy) (HKA'.out y hy) (by omega)).mono ?_
              rintro r X' ⟨rfl, j1, j2, j3⟩
              exact ⟨rfl, ⟨X', (iff_of_eq (congrFun hCn X')).2 ⟨j1, j3 _ _ _ q2, q3.trans j2, q4.trans (fun i cur fr _ hi => j3 i cur fr hi)⟩⟩, rfl⟩
            have hnb : np + 1 ≤ 1048577 := by omega
            clear hCn hJX
            by_cases hmore : np < m2
            · have hm3 : (np : Int) < (m2 : Int) := by omega
              have dm : decide ((np : Int) < (m2 : Int)) = true := decide_eq_true hm3
              obtain ⟨y2, hy2⟩ : ∃ y2, l2[np]? = some y2 := ⟨_, List.getElem?_eq_getElem (by have := HM2.out; omega)⟩
              have hye := List.mem_of_getElem? hy2
              have hpe : ∀ p : CW Cn, ∃ bb off, ao2 = some ⟨bb, off, none⟩ ∧ p.x.cell? ⟨bb, off + np * 2, none⟩ = some (.int .i64 y2.1) ∧ p.x.cell? ⟨bb, off + np * 2 + 1, none⟩ = some (.int .i64 y2.2) := fun p => (QA.out p.x (HPC.out p).1.kp).c _ _ hy2
              obtain ⟨bb, off, hao, _, _⟩ := hpe ⟨_, HC0.out⟩
              subst hao
              have hpe0 : ∀ p : CW Cn, p.x.cell? ⟨bb, off + np * 2, none⟩ = some (.int .i64 y2.1) := fun p => by obtain ⟨b', o', e, h, _⟩ := hpe p; cases e; exact h
              have hpe1 : ∀ p : CW Cn, p.x.cell? ⟨bb, off + np * 2 + 1, none⟩ = some (.int .i64 y2.2) := fun p => by obtain ⟨b', o', e, _, h⟩ := hpe p; cases e; exact h
              have HPy : Hid (∀ p : CW Cn, Calls Try.prog 10 #[.pointer (some ⟨bo, 0, none⟩), .pointer (some ⟨bd, 0, none⟩), .agg #[.int .i64 y2.1, .int .i64 y2.2]] p.x fun e w'' => e = .returned (.bool true) ∧ ∃ p' : CW Cn, w'' = p'.x) := HPl.out y2 hye
              clear hpe hy2 hye
              by_cases hjf : j = fm5
              · have d1 : ((j : Int) != (fm5 : Int)) = false := by simp [hjf]
                clear hj hjf hjl
                gi_wp2
                refine region_quietC (D := Cn) (by kernel_rfl) mixed (by kernel_rfl) HC0.out ?_
                repeat (gi_big_quiet_step (first | (gi_at_call 10; exact CallsIn.inRound _ (callsIn_wide.2 (HPy.out _)))))
                refine wpQuietIn_nil ?_
                rintro _ ⟨p, rfl⟩
                gi_wp2
                exact HFin.out p
              · have d1 : ((j : Int) != (fm5 : Int)) = true := by simp; omega
                have d2 : ((j : Int) != leave) = false := by simp; exact hj.resolve_left hjf
                clear hj hjf hjl
                gi_wp2
                refine region_quietC (D := Cn) (by kernel_rfl) mixed (by kernel_rfl) HC0.out ?_
                repeat (gi_big_quiet_step (first | (gi_at_call 10; exact CallsIn.inRound _ (callsIn_wide.2 (HPy.out _)))))
                refine wpQuietIn_nil ?_
                rintro _ ⟨p, rfl⟩
                gi_wp2
                exact HFin.out p
            · have hm3 : ¬ (np : Int) < (m2 : Int) := by omega
              have dm : decide ((np : Int) < (m2 : Int)) = false := decide_eq_false hm3
              by_cases hjf : j = fm5
              · have d1 : ((j : Int) != (fm5 : Int)) = false := by simp [hjf]
                clear hj hjf hjl
                gi_wp2
                refine region_quietC (D := Cn) (by kernel_rfl) mixed (by kernel_rfl) HC0.out ?_
                repeat (gi_big_quiet_step (fail))
                refine wpQuietIn_nil ?_
                rintro _ ⟨p, rfl⟩
                gi_wp2
                exact HFin.out p
              · have d1 : ((j : Int) != (fm5 : Int)) = true := by simp; omega
                have d2 : ((j : Int) != leave) = false := by simp; exact hj.resolve_left hjf
                clear hj hjf hjl
                gi_wp2
                refine region_quietC (D := Cn) (by kernel_rfl) mixed (by kernel_rfl) HC0.out ?_
                repeat (gi_big_quiet_step (fail))
                refine wpQuietIn_nil ?_
                rintro _ ⟨p, rfl⟩
                gi_wp2
                exact HFin.out p
        · have hne : (x != y) = true := by simpa using hxy
          gi_wp2
          exact ⟨keeps_of_kp (kp_put W _ _) (fun i hi => .inr (by have e : i = w.heap.size + 1 + 1 := (by simpa using hi); subst e; exact ⟨_, _, _, Q6.out W HJ.out.kp⟩)), rfl, pre, x, rfl, fun e => hxy (by rw [HY.out] at e; simpa using e.symm)⟩
      case done =>
        rintro Dd xs W hDd hxs ⟨hn, hJ⟩ hKd
        rw [hxs, ← HKM.out] at hn
        obtain ⟨L5, v5, hst5, hl5⟩ := hJ.len
        obtain ⟨ks5, hks5⟩ : ∃ ks5, ks5 = keysOf (L5.map I.kp) := ⟨_, rfl⟩
        obtain ⟨km5, hkm5⟩ : ∃ km5, km5 = ks5.length := ⟨_, rfl⟩
        have hkl5 : ks5.length ≤ 2097152 := by rw [hks5]; simp [keysOf]; omega
        have HBW : Hid (Below w.heap.size w W) := QB.out W hJ.kp
        have HAo : Hid (∀ X, Below W.heap.size W X → Calls Try.prog 36 #[.pointer (some ⟨bo, 0, none⟩)] X fun r w' => ∃ a c, r = .returned (.slice a km5 c) ∧ IRow w' a ks5 ∧ Below X.heap.size X w') := fun X hX => by
          refine (A.law_any (hst5.later hX).o (by omega)).mono ?_
          rintro r w' ⟨v, rfl, ho, hb⟩
          rw [picked_all, ← hks5] at ho
          obtain ⟨a, c, rfl, hi⟩ := irow_of ho
          exact ⟨a, c, by rw [hkm5], hi, hb⟩
        have HAd : Hid (∀ X, Below W.heap.size W X → Calls Try.prog 27 #[.pointer (some ⟨bd, 0, none⟩)] X fun r w' => ∃ a c, r = .returned (.slice a km5 c) ∧ IRow w' a ks5 ∧ Below X.heap.size X w') := fun X hX => by
          refine (all_any (hst5.later hX).d).mono ?_
          rintro r w' ⟨v, rfl, ho, hb⟩
          rw [← hks5] at ho
          obtain ⟨a, c, rfl, hi⟩ := irow_of ho
          exact ⟨a, c, by rw [hkm5], hi, hb⟩
        have HSk : Hid (∀ (X : World) (a a' : Option Addr) (c c' : Nat), IRow X a ks5 → IRow X a' ks5 → Calls Try.prog 35 #[.slice a km5 c, .slice a' km5 c'] X fun r w' => r = .returned (.bool true) ∧ Below X.heap.size X w') := fun X a a' c c' h1 h2 => by
          rw [hkm5]
          refine (same_any a a' c c' ks5 ks5 X (by omega) (by omega) h1 h2).mono ?_
          rintro r w' ⟨rfl, q, rfl⟩
          exact ⟨by simp, below_drewN X q⟩
        have cn := hn.cell
        have ck := Qk.out W hJ.kp
        have c7 := Q7.out W hJ.kp
        have c8 := Q8.out W hJ.kp
        have HCC : Hid (∀ X, Below W.heap.size W X → X.cell? ⟨bn, 0, none⟩ = some (.int .i64 km) ∧ X.cell? ⟨bk, 0, none⟩ = some (.slice a3 km c3) ∧ X.cell? ⟨w0.heap.size, 0, none⟩ = some (.pointer (some ⟨bo, 0, none⟩)) ∧ X.cell? ⟨w0.heap.size + 1 + 1, 0, none⟩ = some (.pointer (some ⟨bd, 0, none⟩))) := fun X hX => ⟨cell_later hX cn, cell_later hX ck, cell_later hX c7, cell_later hX c8⟩
        have HB6 : Hid (∀ X, Below W.heap.size W X → Boxed X (w.heap.size + 1 + 1) 4 (.bool false)) := fun X hX => Boxed.later (Q6.out W hJ.kp) hX
        have HKD : Hid (W.heap[Dd]? = some (.deferred (some []))) := hKd
        have HBd0 : Hid (Below W.heap.size W W.drew) := ⟨rfl, rfl, rfl, Nat.le_refl _, fun _ _ => rfl⟩
        have dfl : decide ((fm : Int) ≤ (km : Int)) = true := decide_eq_true (by omega)
        have hfk : (fm : Int) ≤ (km : Int) := by omega
        clear hn hJ hst5 hl5 hks5 hkm5 hkl5 hKd hseq hxs
        gi_wp2
        refine wpIn_wide.2 ?_
        go_region_held3 (fun w' => w'.cell? ⟨bn, 0, none⟩ = some (.int .i64 km) ∧ w'.cell? ⟨bk, 0, none⟩ = some (.slice a3 km c3) ∧ w'.cell? ⟨w0.heap.size, 0, none⟩ = some (.pointer (some ⟨bo, 0, none⟩)) ∧ w'.cell? ⟨w0.heap.size + 1 + 1, 0, none⟩ = some (.pointer (some ⟨bd, 0, none⟩)))
          (first | exact hSput.out _ | go_keep | exact HCC.out _ HB6'.out | exact HCC.out _ HB5.out | exact HCC.out _ HB4.out | exact HCC.out _ HB3.out | fail)
          (first
            | (go_at_call 36; refine (HAo.out _ HBd0.out).mono ?_; rintro e w3 ⟨a6, c6, rfl, hi3, hb3⟩; have HB3 : Hid (Below W.heap.size W w3) := HBd0.out.trans (hb3.mono HBd0.out.size); clear hb3)
            | (go_at_call 27; refine (HAd.out _ HB3.out).mono ?_; rintro e w4 ⟨a7, c7', rfl, hi4, hb4⟩; have HB4 : Hid (Below W.heap.size W w4) := HB3.out.trans (hb4.mono HB3.out.size); have hs1 := HSk.out w4 a6 a7 c6 c7' (hi3.later hb4) hi4; clear hb4 hi3 hi4)
            | (go_at_call 35; refine hs1.mono ?_; clear hs1; rintro e w5 ⟨rfl, hb5⟩; have HB5 : Hid (Below W.heap.size W w5) := HB4.out.trans (hb5.mono HB4.out.size); clear hb5)
            | (go_at_call 12; refine (S.alive_any _).mono ?_; rintro e w6 ⟨rfl, hb6'⟩; have HB6' : Hid (Below W.heap.size W w6) := HB5.out.trans (hb6'.mono HB5.out.size); have hz6 := (HB6.out w6 HB6'.out).cell; have hy6 := (HB6.out w6 HB6'.out).frozen; have hSput : Hid (∀ v, (w6.setCell ⟨w.heap.size + 1 + 1, 0, none⟩ v).cell? ⟨bn, 0, none⟩ = some (.int .i64 km) ∧ (w6.setCell ⟨w.heap.size + 1 + 1, 0, none⟩ v).cell? ⟨bk, 0, none⟩ = some (.slice a3 km c3) ∧ (w6.setCell ⟨w.heap.size + 1 + 1, 0, none⟩ v).cell? ⟨w0.heap.size, 0, none⟩ = some (.pointer (some ⟨bo, 0, none⟩)) ∧ (w6.setCell ⟨w.heap.size + 1 + 1, 0, none⟩ v).cell? ⟨w0.heap.size + 1 + 1, 0, none⟩ = some (.pointer (some ⟨bd, 0, none⟩))) := (fun v => by obtain ⟨q1, q2, q3, q4⟩ := HCC.out _ HB6'.out; exact ⟨(World.cell?_setCell_far _ _ _ _ hb6n).trans q1, (World.cell?_setCell_far _ _ _ _ hb6k).trans q2, (World.cell?_setCell_far _ _ _ _ hb67).trans q3, (World.cell?_setCell_far _ _ _ _ hb68).trans q4⟩); clear hb6')
            | fail)
        gi_wp2
        have hx6 := (HB6.out w6 HB6'.out).set (.bool true)
        have hsw := HBW.out.size
        have hne6 : Dd ≠ w.heap.size + 1 + 1 := by omega
        have hK7 : (w6.setCell ⟨w.heap.size + 1 + 1, 0, none⟩ (.bool true)).heap[Dd]? = some (.deferred (some [])) := (Below.heap_setCell _ _ _ _ hne6).trans ((HB6'.out.block Dd (Array.getElem?_eq_some_iff.1 HKD.out).1).trans HKD.out)
        have hB7 : Below w.heap.size w (w6.setCell ⟨w.heap.size + 1 + 1, 0, none⟩ (.bool true)) := (HBW.out.trans (HB6'.out.mono hsw)).setCell (by show w.heap.size ≤ w.heap.size + 1 + 1; omega) _
        refine ⟨by simp, .inl ⟨_, _, rfl, run_takeDeferred hK7, ?_⟩⟩
        have hx7 : Boxed ((w6.setCell ⟨w.heap.size + 1 + 1, 0, none⟩ (.bool true)).putObj Dd (.deferred none)) (w.heap.size + 1 + 1) 4 (.bool true) := (World.putObj_heap_other (Ne.symm hne6)).trans hx6
        exact ⟨_, results_bool rfl _ _ _ true rfl hx7.cell, rfl, hB7.trans (belowK_b (w := w) (Nat.le_refl _) _ Dd _ _ (by omega) hK7 rfl rfl)⟩
      case stop =>
        rintro Dd c2 pre W _ ⟨rest, hrest⟩ ⟨rfl, pre', x', rfl, hne'⟩ _
        exact absurd (by rw [hrest]; simp) hne'
end Go.Proofs.Ytpchllepboolhaa.D
