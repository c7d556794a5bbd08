import Derived.Test.YtpkobgnbjmefnabDoorUnqE
namespace Go.Proofs.YtpkobgnbjmefnabDoor
open Go.RowKit
set_option linter.unusedVariables false
set_option maxRecDepth 100000

set_option maxHeartbeats 10000000 in
theorem unescape_any (s : ByteArray) (w : World) (hs : s.size ≤ 268435456)
    (hFB : ∀ (t : ByteArray) (wr : World), 0 < t.size → t.size ≤ 268435456 → Calls Tryd.prog 77 #[.string t] wr fun e w' => e = fbF (fBL (sbytes t)) ∧ Below wr.heap.size wr w') :
    Calls Tryd.prog 36 #[.string s] w fun e w' => e = unE (unL (sbytes s)) ∧ Below w.heap.size w w' := by
  have H0 : Hid (BQ w (w.alloc (.cells #[.pointer none, .slice none 0 0] 75)) w.heap.size []) :=
    ⟨.inl ⟨Nat.le_refl _, .slice none 0 0, heap_new w _, World.ownsRowF_nil _ _ _ _, by simp [Value.ownBlock]⟩, (Below.refl _ _).alloc (Nat.le_refl _) _⟩
  have HFB : Hid (∀ (t : ByteArray) (wr : World), 0 < t.size → t.size ≤ 268435456 → Calls Tryd.prog 77 #[.string t] wr fun e w' => e = fbF (fBL (sbytes t)) ∧ Below wr.heap.size wr w') := hFB
  clear hFB
  go_enter Tryd.func36, Tryd.ntmps36
  go_wp2
  go_loopw [0] (fun v wr => ∃ (t : ByteArray) (acc : List UInt8), v = .string t ∧ acc.length + t.size ≤ s.size ∧ BQ w wr w.heap.size acc ∧ unL (sbytes s) = (unL (sbytes t)).map (acc.map UInt8.toNat ++ ·)) (fun v _ => strLen v)
  case atStart => exact ⟨s, [], rfl, by simp, H0.out, by simp⟩
  case round =>
    obtain ⟨t, acc, rfl, hlen, hq, hacc⟩ := hrel
    have HQ : Hid (BQ w wr w.heap.size acc) := hq
    have HA : Hid (unL (sbytes s) = (unL (sbytes t)).map (acc.map UInt8.toNat ++ ·)) := hacc
    clear hq hacc
    by_cases h0 : t.size = 0
    · obtain rfl := empty_of t h0
      have HE : Hid (unL (sbytes s) = some (acc.map UInt8.toNat)) := by
        show _ = _
        rw [HA.out]; simp [sbytes, unL_nil]
      clear HA h0
      go_wp2_with fail
      refine HQ.out.text.mono ?_
      rintro e w2 ⟨rfl, hb⟩
      have HB : Hid (Below w.heap.size w w2) := hb
      clear hb
      go_wp2
      go_ret2
      exact ⟨by rw [HE.out]; simp only [unE]; rw [bstr_nat]; rfl, HB.out⟩
    · have h1 : 0 < t.size := by omega
      have hemp : t.toList.isEmpty = false := toList_some t h1
      have HF : Hid (Calls Tryd.prog 77 #[.string t] wr fun e w' => e = fbF (fBL (sbytes t)) ∧ Below wr.heap.size wr w') := HFB.out t wr h1 (by omega)
      cases hf : fBL (sbytes t) with
      | none =>
        rw [hf] at HF
        have hne : sbytes t ≠ [] := fun e => by have := sbytes_length t; rw [e] at this; simp at this; omega
        have HE : Hid (unL (sbytes s) = none) := by
          show _ = _
          rw [HA.out, unL_none _ hne hf]; rfl
        clear HA hf hne
        simp only [fbF] at HF
        go_wp2_with fail
        refine HF.out.mono ?_
        rintro e w2 ⟨rfl, hb⟩
        have HB : Hid (Below w.heap.size w w2) := HQ.out.bel.trans (hb.mono HQ.out.bel.size)
        clear hb
        go_wp2
        go_ret2
        exact ⟨by rw [HE.out]; rfl, HB.out⟩
      | some x =>
        obtain ⟨b, k⟩ := x
        rw [hf] at HF
        have hk := fBL_pos _ _ _ hf
        rw [sbytes_length] at hk
        have hb := fBL_lt _ _ _ (sbytes_lt t) hf
        obtain ⟨c, hc⟩ : ∃ c : UInt8, c.toNat = b := ⟨UInt8.ofNat b, map_toNat_ofNat b hb⟩
        have HN : Hid (unL (sbytes s) = (unL (sbytes (t.extract k t.size))).map ((acc ++ [c]).map UInt8.toNat ++ ·)) := by
          show _ = _
          rw [HA.out, unL_some _ _ _ hf, sbytes_drop t k hk.2, Option.map_map]
          congr 1
          funext m
          simp [hc]
        have HZ : Hid ((t.extract k t.size).size = t.size - k) := by show _ = _; rw [ByteArray.size_extract]; omega
        subst hc
        clear HA hf hb
        simp only [fbF] at HF
        go_wp2_with fail
        refine HF.out.mono ?_
        rintro e w2 ⟨rfl, hb⟩
        have HQ2 : Hid (BQ w w2 w.heap.size acc) := HQ.out.below hb
        clear hb
        go_wp2_with fail
        refine (HQ2.out.byte c (by omega)).mono ?_
        rintro e w3 ⟨rfl, hq⟩
        have HQ3 : Hid (BQ w w3 w.heap.size (acc ++ [c])) := hq
        clear hq
        go_wp2
        go_roundw
        case rel => exact ⟨_, acc ++ [c], rfl, by rw [HZ.out]; simp; omega, HQ3.out, HN.out⟩
        case measure => simp only [strLen]; rw [HZ.out]; omega
end Go.Proofs.YtpkobgnbjmefnabDoor
