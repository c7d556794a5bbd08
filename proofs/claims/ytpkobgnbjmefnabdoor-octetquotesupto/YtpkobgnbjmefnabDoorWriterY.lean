import Derived.Test.YtpkobgnbjmefnabDoorWriterX
namespace Go.Proofs.YtpkobgnbjmefnabDoor
open Go.RowKit
set_option linter.unusedVariables false
set_option maxRecDepth 100000

theorem WPost.ofBelow {w w' : World} {B p : Nat} {v : Value} {l : List Nat} (h : WOk w B p v l) (hb : Below w.heap.size w w') : WPost w w' B p v v l :=
  ⟨h.later (S := fun _ => False) (KeptIn.ofBelow hb) (fun h => h) (fun _ _ h => h), KeptIn.ofBelow hb, .inl rfl⟩

set_option maxHeartbeats 1000000 in
theorem wtext_bad (B p : Nat) (v : Value) (l : List Nat) (s : ByteArray) (w : World) (h : WOk w B p v l) (hs : s.size ≤ 9223372036854775807) (hT : Tabs w) (hp : plainB s.data.toList = false) :
    Calls Tryd.prog 51 #[.pointer (some ⟨p, 0, none⟩), .string s] w fun e w' => e = .returned (.int .i64 13) ∧ WPost w w' B p v v l := by
  have HU : Hid (Calls Tryd.prog 67 #[.pointer (some ⟨p, 0, none⟩)] w fun e w' => e = .returned (.bool true) ∧ w' = w) := usable_true p w h.c0
  have HP : Hid (Calls Tryd.prog 79 #[.string s] w fun e w' => e = .returned (.bool false) ∧ Below w.heap.size w w') := by
    have := plain_any s w hs hT; rw [hp] at this; exact this
  have HW : Hid (WOk w B p v l) := h
  clear h hT hp
  go_enter Tryd.func51, Tryd.ntmps51
  go_wp2_with fail
  refine HU.out.mono ?_
  rintro e w1 ⟨rfl, hw⟩
  rw [hw]; clear hw
  go_wp2_with fail
  refine HP.out.mono ?_
  rintro e w1 ⟨rfl, hb⟩
  go_wp2
  go_ret
  exact ⟨rfl, WPost.ofBelow HW.out hb⟩
set_option maxHeartbeats 1000000 in
theorem wtext_long (B p : Nat) (v : Value) (l : List Nat) (s : ByteArray) (w : World) (h : WOk w B p v l) (hs : s.size ≤ 9223372036854775807) (hT : Tabs w) (hp : plainB s.data.toList = true) (hlen : 4096 < s.size) :
    Calls Tryd.prog 51 #[.pointer (some ⟨p, 0, none⟩), .string s] w fun e w' => e = .returned (.int .i64 12) ∧ WPost w w' B p v v l := by
  have HU : Hid (Calls Tryd.prog 67 #[.pointer (some ⟨p, 0, none⟩)] w fun e w' => e = .returned (.bool true) ∧ w' = w) := usable_true p w h.c0
  have HP : Hid (Calls Tryd.prog 79 #[.string s] w fun e w' => e = .returned (.bool true) ∧ Below w.heap.size w w') := by
    have := plain_any s w hs hT; rw [hp] at this; exact this
  have HW : Hid (WOk w B p v l) := h
  clear h hT hp
  go_enter Tryd.func51, Tryd.ntmps51
  go_wp2_with fail
  refine HU.out.mono ?_
  rintro e w1 ⟨rfl, hw⟩
  rw [hw]; clear hw
  go_wp2_with fail
  refine HP.out.mono ?_
  rintro e w1 ⟨rfl, hb⟩
  go_wp2
  go_ret
  exact ⟨rfl, WPost.ofBelow HW.out hb⟩
set_option maxHeartbeats 1000000 in
theorem wtext_ok (B p : Nat) (v : Value) (l : List Nat) (s : ByteArray) (w : World) (h : WOk w B p v l) (hT : Tabs w) (hp : plainB s.data.toList = true) (hlen : s.size ≤ 4096) (hl : l.length + 5000 ≤ 140737488351232) (hB : B ≤ w.heap.size) :
    Calls Tryd.prog 51 #[.pointer (some ⟨p, 0, none⟩), .string s] w fun e w' => e = .returned (.int .i64 0) ∧ ∃ v', WPost w w' B p v v' (l ++ (bigTo s.size 4 4 ++ sbytes s)) := by
  obtain ⟨i0, hi, hz0, hz1, hz2⟩ := info_parts Tryd.info5
  have HU : Hid (Calls Tryd.prog 67 #[.pointer (some ⟨p, 0, none⟩)] w fun e w' => e = .returned (.bool true) ∧ w' = w) := usable_true p w h.c0
  have HP : Hid (Calls Tryd.prog 79 #[.string s] w fun e w' => e = .returned (.bool true) ∧ Below w.heap.size w w') := by
    have := plain_any s w (by omega) hT; rw [hp] at this; exact this
  have HW : Hid (WOk w B p v l) := h
  clear h hT hp
  go_enter Tryd.func51, Tryd.ntmps51
  go_wp2_with fail
  refine HU.out.mono ?_
  rintro e w1 ⟨rfl, hw⟩
  rw [hw]; clear hw
  go_wp2_with fail
  refine HP.out.mono ?_
  rintro e w1 ⟨rfl, hb⟩
  have HQ : Hid (WPost w w1 B p v v l) := WPost.ofBelow HW.out hb
  have HN : Hid (Calls Tryd.prog 44 #[.pointer (some ⟨p, 0, none⟩), .int .u32 (s.size : Int)] w1 fun e w' => e = .returned (.tuple #[]) ∧ ∃ v', WPost w1 w' B p v v' (l ++ bigTo s.size 4 4)) :=
    wu32_any B p s.size v l w1 HQ.out.ok (by omega) (by omega) (Nat.le_trans hB hb.size)
  have HZ : Hid (w.heap.size ≤ w1.heap.size) := hb.size
  clear hb
  go_wp2_with fail
  refine HN.out.mono ?_
  rintro e w2 ⟨rfl, v2, hp2⟩
  have c1 := hp2.ok.c1
  have hml : (l ++ bigTo s.size 4 4).length = l.length + 4 := by simp [bigTo_length]
  have HA : Hid (l ++ (bigTo s.size 4 4 ++ sbytes s) = (l ++ bigTo s.size 4 4) ++ sbytes s) := (List.append_assoc _ _ _).symm
  generalize l ++ bigTo s.size 4 4 = m at *
  have hml' : m.length ≤ l.length + 4 := by omega
  clear hml
  have HP2 : Hid (WPost w1 w2 B p v v2 m) := hp2
  clear hp2
  have HB2 : Hid (B ≤ w2.heap.size) := Nat.le_trans hB (Nat.le_trans HZ.out HP2.out.kept.size)
  go_wp2_with (at_builtin; refine wpList_append_two_string _ rfl (.tmp 26) (.tmp 27) 37 9 rfl B 5 i0 Tryd.underlying37 Tryd.underlying9 hi hz0 hz1 hz2 v2 m.length (m.map bv) rfl HP2.out.ok.own s rfl (by omega) HB2.out ?_)
  intro ao3 cp3 w3 ho hg hf
  have HR := HP2.out.ok.grow1 (m := sbytes s) (Below.refl _ _) (sbytes_lt s) (by rw [sbytes_length, ← strCells_bv]; exact ho) hg hf
  obtain ⟨⟨c2, f2⟩, hp3⟩ := HR
  have HP3 : Hid (WPost w2 (w3.setCell ⟨p, 1, none⟩ (.slice ao3 (m.length + s.size) cp3)) B p v2 (.slice ao3 (m.length + s.size) cp3) (m ++ sbytes s)) := hp3
  clear hp3 ho hg hf
  go_wp2
  go_ret
  refine ⟨rfl, .slice ao3 (m.length + s.size) cp3, ?_⟩
  rw [HA.out]
  exact HQ.out.trans (HP2.out.trans HP3.out)

set_option maxHeartbeats 400000 in
theorem clone_nil (w : World) : Calls Tryd.prog 40 #[.slice none 0 0] w fun e w' => e = .returned (.slice none 0 0) ∧ w' = w := by
  have he : ∀ w : World, (binOp .eql 37 (.slice none 0 0) (.slice none 0 0)).run Tryd.prog w = .ok (.bool true) w := fun w => run_eql_nil_slice w 37 5 none 0 0 0 0 Tryd.underlying37
  go_enter Tryd.func40, Tryd.ntmps40
  go_wp2
  go_ret
  exact ⟨rfl, rfl⟩
theorem BRow.below {w w' : World} {ao : Option Addr} {cap : Nat} {l : List Nat} (h : BRow w ao cap l) (hb : Below w.heap.size w w') : BRow w' ao cap l := h.later hb
set_option maxHeartbeats 1000000 in
theorem clone_some (ad : Addr) (cap n : Nat) (l : List Nat) (w : World) (h : BRow w (some ad) cap l) (HN : Hid (l.length = n)) (hn : n ≤ 140737488351232) :
    Calls Tryd.prog 40 #[.slice (some ad) n cap] w fun e w' => ∃ v, e = .returned v ∧ w'.ownsRow w.heap.size 5 1 v n (l.map bv) ∧ Below w.heap.size w w' := by
  obtain ⟨i0, hi, hz0, hz1, hz2⟩ := info_parts Tryd.info5
  have he : ∀ w : World, (binOp .eql 37 (.slice (some ad) n cap) (.slice none 0 0)).run Tryd.prog w = .ok (.bool false) w := fun w => Lib.run_eql_slice_nil w 37 5 (some ad) n cap 0 0 Tryd.underlying37
  have HB : Hid (∀ o, BRow (w.alloc o) (some ad) cap l) := fun o => h.later ((Below.refl _ _).alloc (Nat.le_refl _) o)
  have HO : Hid ((w.alloc (.cells #[] 5)).ownsRow w.heap.size 5 1 (.slice (some ⟨w.heap.size, 0, none⟩) 0 0) 0 []) :=
    World.ownsRow_lit w #[] 0 (Nat.le_refl _) (Nat.zero_le _) rfl
  clear h
  go_enter Tryd.func40, Tryd.ntmps40
  go_wp2_with (at_builtin; refine wpList_append_two _ rfl (.tmp 5) (.tmp 6) 37 rfl w.heap.size 5 i0 (.int .u8 0) 1 Tryd.underlying37 hi hz0 hz1 hz2 rfl _ 0 [] rfl HO.out (some ad) n cap (l.map bv) rfl (by simp) (by rw [List.length_map]; exact HN.out) (HB.out _).news (bv_one l) (by unfold maxLen; omega) (by omega) (by simp) ?_)
  intro v' w1 ho hg hf
  have hb : Below w.heap.size w w1 := ((Below.refl _ _).alloc (Nat.le_refl _) _).grown hg (by simp) (by intro k hk; simp [Value.ownBlock] at hk; omega)
  clear hg hf
  go_wp2
  go_ret
  exact ⟨_, rfl, ho, hb⟩
theorem clone_any (ao : Option Addr) (cap : Nat) (l : List Nat) (w : World) (h : BRow w ao cap l) :
    Calls Tryd.prog 40 #[.slice ao l.length cap] w fun e w' => ∃ ao' cap', e = .returned (.slice ao' l.length cap') ∧ w'.ownsRow w.heap.size 5 1 (.slice ao' l.length cap') l.length (l.map bv) ∧ Below w.heap.size w w' := by
  cases ao with
  | none =>
    obtain ⟨rfl, rfl⟩ := h.nil rfl
    exact (clone_nil w).mono fun e w' hh => ⟨none, 0, hh.1, World.ownsRow_nil _ _ _ _, by rw [hh.2]; exact Below.refl _ _⟩
  | some ad =>
    refine (clone_some ad cap l.length l w h rfl h.len).mono fun e w' ⟨v, he, ho, hb⟩ => ?_
    obtain ⟨ao', cap', rfl⟩ := owns_form ho
    exact ⟨ao', cap', he, ho, hb⟩

set_option maxHeartbeats 400000 in
theorem wout_any (B p : Nat) (v : Value) (l : List Nat) (w : World) (h : WOk w B p v l) (hl : l.length ≤ 140737488351232) :
    Calls Tryd.prog 21 #[.pointer (some ⟨p, 0, none⟩)] w fun e w' => ∃ ao' cap', e = .returned (.slice ao' l.length cap') ∧ w'.ownsRow w.heap.size 5 1 (.slice ao' l.length cap') l.length (l.map bv) ∧ Below w.heap.size w w' := by
  have HU : Hid (Calls Tryd.prog 67 #[.pointer (some ⟨p, 0, none⟩)] w fun e w' => e = .returned (.bool true) ∧ w' = w) := usable_true p w h.c0
  have c1 := h.c1
  obtain ⟨ao, cap, hv, hb⟩ := BRow.own h.own h.lt hl
  subst hv
  have HC : Hid (Calls Tryd.prog 40 #[.slice ao l.length cap] w fun e w' => ∃ ao' cap', e = .returned (.slice ao' l.length cap') ∧ w'.ownsRow w.heap.size 5 1 (.slice ao' l.length cap') l.length (l.map bv) ∧ Below w.heap.size w w') := clone_any ao cap l w hb
  clear h hb
  go_enter Tryd.func21, Tryd.ntmps21
  go_wp2_with fail
  refine HU.out.mono ?_
  rintro e w1 ⟨rfl, hw⟩
  rw [hw]; clear hw
  go_wp2_with fail
  refine HC.out.mono ?_
  rintro e w1 ⟨ao', cap', rfl, ho, hb⟩
  go_wp2
  go_ret
  exact ⟨_, _, rfl, ho, hb⟩
end Go.Proofs.YtpkobgnbjmefnabDoor
