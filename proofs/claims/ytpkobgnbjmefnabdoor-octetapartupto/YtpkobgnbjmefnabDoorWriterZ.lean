import Derived.Test.YtpkobgnbjmefnabDoorWriterY
import Derived.Test.YtpkobgnbjmefnabDoorRefBig
import Derived.Test.YtpkobgnbjmefnabDoorAppZ
namespace Go.Proofs.YtpkobgnbjmefnabDoor
open Go.RowKit
set_option linter.unusedVariables false
set_option maxRecDepth 100000

theorem zeros_lt (n : Nat) : ∀ x ∈ List.replicate n 0, x < 256 := fun x hx => by rw [(List.mem_replicate.1 hx).2]; decide
set_option maxHeartbeats 1000000 in
theorem wzeros_neg (p : Nat) (n : Int) (w : World) (c0 : w.cell? ⟨p, 0, none⟩ = some (.bool true)) (hn : n < 0) :
    Calls Tryd.prog 49 #[.pointer (some ⟨p, 0, none⟩), .int .i64 n] w fun e w' => e = .returned (.int .i64 2) ∧ w' = w := by
  have HU : Hid (Calls Tryd.prog 67 #[.pointer (some ⟨p, 0, none⟩)] w fun e w' => e = .returned (.bool true) ∧ w' = w) := usable_true p w c0
  have t0 : decide (n < 0) = true := by simp; omega
  clear c0
  go_enter Tryd.func49, Tryd.ntmps49
  go_wp2_with fail
  refine HU.out.mono ?_
  rintro e w1 ⟨rfl, hw⟩
  rw [hw]; clear hw
  go_wp2
  go_ret
  exact ⟨rfl, rfl⟩
set_option maxHeartbeats 1000000 in
theorem wzeros_big (p : Nat) (n : Int) (w : World) (c0 : w.cell? ⟨p, 0, none⟩ = some (.bool true)) (hn : 2097152 < n) :
    Calls Tryd.prog 49 #[.pointer (some ⟨p, 0, none⟩), .int .i64 n] w fun e w' => e = .returned (.int .i64 12) ∧ w' = w := by
  have HU : Hid (Calls Tryd.prog 67 #[.pointer (some ⟨p, 0, none⟩)] w fun e w' => e = .returned (.bool true) ∧ w' = w) := usable_true p w c0
  have t0 : decide (n < 0) = false := by simp; omega
  have t1 : decide ((2097152 : Int) < n) = true := by simp; omega
  clear c0
  go_enter Tryd.func49, Tryd.ntmps49
  go_wp2_with fail
  refine HU.out.mono ?_
  rintro e w1 ⟨rfl, hw⟩
  rw [hw]; clear hw
  go_wp2
  go_ret
  exact ⟨rfl, rfl⟩
set_option maxHeartbeats 1000000 in
theorem wzeros_ok (B p : Nat) (v : Value) (l : List Nat) (n : Nat) (w : World) (h : WOk w B p v l) (hn : n ≤ 2097152) (hl : l.length + n ≤ 140737488351232) (hB : B ≤ w.heap.size) :
    Calls Tryd.prog 49 #[.pointer (some ⟨p, 0, none⟩), .int .i64 (n : Int)] w fun e w' => e = .returned (.int .i64 0) ∧ ∃ v', WPost w w' B p v v' (l ++ List.replicate n 0) := by
  obtain ⟨i0, hi, hz0, hz1, hz2⟩ := info_parts Tryd.info5
  have HU : Hid (Calls Tryd.prog 67 #[.pointer (some ⟨p, 0, none⟩)] w fun e w' => e = .returned (.bool true) ∧ w' = w) := usable_true p w h.c0
  have t0 : decide ((n : Int) < 0) = false := by simp
  have t1 : decide ((2097152 : Int) < (n : Int)) = false := by simp; omega
  have c1 := h.c1
  have HW : Hid (WOk w B p v l) := h
  clear h
  go_enter Tryd.func49, Tryd.ntmps49
  go_wp2_with fail
  refine HU.out.mono ?_
  rintro e w1 ⟨rfl, hw⟩
  rw [hw]; clear hw
  go_wp2_with (at_builtin; refine wpList_append_two_make _ rfl _ _ 37 9 3 rfl B 5 i0 Tryd.underlying37 Tryd.underlying9 Tryd.underlying3 hi hz0 hz1 hz2 v l.length (l.map bv) rfl HW.out.own n rfl hn (by omega) hB ?_)
  intro ao2 cp2 w2 ho hg hf
  have HR := HW.out.grow1 (m := List.replicate n 0) (Below.refl _ _) (zeros_lt n) (by rw [List.length_replicate, List.map_replicate]; exact ho) hg hf
  obtain ⟨⟨c2, f2⟩, hp⟩ := HR
  have HP : Hid (WPost w (w2.setCell ⟨p, 1, none⟩ (.slice ao2 (l.length + n) cp2)) B p v (.slice ao2 (l.length + n) cp2) (l ++ List.replicate n 0)) := hp
  clear hp ho hg hf
  go_wp2
  go_ret
  exact ⟨rfl, _, HP.out⟩

/-- what Zeros comes to -/
def zM (n : Int) : List Nat := if n < 0 then [] else if 2097152 < n then [] else List.replicate n.toNat 0
def zE (n : Int) : Nat := if n < 0 then 2 else if 2097152 < n then 12 else 0
theorem z_cases (n : Int) : (n < 0 ∧ zM n = [] ∧ zE n = 2) ∨ (2097152 < n ∧ zM n = [] ∧ zE n = 12) ∨ ∃ N : Nat, n = (N : Int) ∧ N ≤ 2097152 ∧ zM n = List.replicate N 0 ∧ zE n = 0 := by
  unfold zM zE
  by_cases h0 : n < 0
  · simp [h0]
  · right
    by_cases h1 : 2097152 < n
    · left; simp [h0, h1]
    · right
      obtain ⟨N, rfl⟩ := Int.eq_ofNat_of_zero_le (by omega : 0 ≤ n)
      exact ⟨N, rfl, by omega, by simp [h0, h1], by simp [h0, h1]⟩
theorem zE_le (n : Int) : zE n ≤ 15 := by rcases z_cases n with ⟨_, _, h⟩ | ⟨_, _, h⟩ | ⟨_, _, _, _, h⟩ <;> omega
theorem zM_len (n : Int) : (zM n).length ≤ 2097152 := by
  rcases z_cases n with ⟨_, h, _⟩ | ⟨_, h, _⟩ | ⟨_, _, _, h, _⟩ <;> rw [h] <;> simp
  assumption
theorem zM_lt (n : Int) : ∀ x ∈ zM n, x < 256 := by
  rcases z_cases n with ⟨_, h, _⟩ | ⟨_, h, _⟩ | ⟨_, _, _, h, _⟩ <;> rw [h]
  · simp
  · simp
  · exact zeros_lt _
theorem wzeros_any (B p : Nat) (v : Value) (l : List Nat) (n : Int) (w : World) (h : WOk w B p v l) (hl : l.length ≤ 140737000000000) (hB : B ≤ w.heap.size) :
    Calls Tryd.prog 49 #[.pointer (some ⟨p, 0, none⟩), .int .i64 n] w fun e w' => e = .returned (.int .i64 (zE n : Nat)) ∧ ∃ v', WPost w w' B p v v' (l ++ zM n) := by
  rcases z_cases n with ⟨hn, e1, e2⟩ | ⟨hn, e1, e2⟩ | ⟨N, rfl, hN, e1, e2⟩
  · rw [e1, e2, List.append_nil]
    refine (wzeros_neg p n w h.c0 hn).mono fun e w' hh => ⟨hh.1, v, ?_⟩
    rw [hh.2]; exact WPost.refl h
  · rw [e1, e2, List.append_nil]
    refine (wzeros_big p n w h.c0 hn).mono fun e w' hh => ⟨hh.1, v, ?_⟩
    rw [hh.2]; exact WPost.refl h
  · rw [e1, e2]
    exact wzeros_ok B p v l N w h hN (by omega) hB
theorem rzeros_any (n : Int) (w : World) :
    Calls Tryd.prog 50 #[.int .i64 n] w fun e w' => ∃ ao cap, e = .returned (.tuple #[.slice ao (zM n).length cap, .int .i64 (zE n : Nat)]) ∧ w'.ownsRow w.heap.size 5 1 (.slice ao (zM n).length cap) (zM n).length ((zM n).map bv) ∧ Below w.heap.size w w' := by
  rcases z_cases n with ⟨hn, e1, e2⟩ | ⟨hn, e1, e2⟩ | ⟨N, rfl, hN, e1, e2⟩
  · rw [e1, e2]
    refine (rzeros_neg n w hn).mono fun e w' hh => ⟨none, 0, hh.1, World.ownsRow_nil _ _ _ _, ?_⟩
    rw [hh.2]; exact Below.refl _ _
  · rw [e1, e2]
    refine (rzeros_big n w hn).mono fun e w' hh => ⟨none, 0, hh.1, World.ownsRow_nil _ _ _ _, ?_⟩
    rw [hh.2]; exact Below.refl _ _
  · rw [e1, e2, List.length_replicate]
    exact (rzeros_ok N w hN).mono fun e w' hh => ⟨_, _, hh.1, hh.2.1, hh.2.2⟩

/-- what Text comes to, written -/
def tM (s : ByteArray) : List Nat := if plainB s.data.toList = true then (if s.size ≤ 4096 then bigTo s.size 4 4 ++ sbytes s else []) else []
def tE (s : ByteArray) : Nat := if plainB s.data.toList = true then (if s.size ≤ 4096 then 0 else 12) else 13
theorem t_cases (s : ByteArray) : (plainB s.data.toList = false ∧ tM s = [] ∧ tE s = 13) ∨ (plainB s.data.toList = true ∧ 4096 < s.size ∧ tM s = [] ∧ tE s = 12) ∨ (plainB s.data.toList = true ∧ s.size ≤ 4096 ∧ tM s = bigTo s.size 4 4 ++ sbytes s ∧ tE s = 0) := by
  unfold tM tE
  by_cases hp : plainB s.data.toList = true
  · right
    by_cases hl : s.size ≤ 4096
    · right; simp [hp, hl]
    · left; simp [hp, hl]; omega
  · left; simp at hp; simp [hp]
theorem tE_le (s : ByteArray) : tE s ≤ 15 := by rcases t_cases s with ⟨_, _, h⟩ | ⟨_, _, _, h⟩ | ⟨_, _, _, h⟩ <;> omega
theorem tM_len (s : ByteArray) : (tM s).length ≤ 4100 := by
  rcases t_cases s with ⟨_, h, _⟩ | ⟨_, _, h, _⟩ | ⟨_, hl, h, _⟩ <;> rw [h] <;> simp [bigTo_length, sbytes_length]
  omega
theorem tM_lt (s : ByteArray) : ∀ x ∈ tM s, x < 256 := by
  rcases t_cases s with ⟨_, h, _⟩ | ⟨_, _, h, _⟩ | ⟨_, hl, h, _⟩ <;> rw [h]
  · simp
  · simp
  · intro x hx
    rcases List.mem_append.1 hx with h' | h'
    · exact bigTo_lt _ _ _ x h'
    · exact sbytes_lt s x h'
theorem wtext_any (B p : Nat) (v : Value) (l : List Nat) (s : ByteArray) (w : World) (h : WOk w B p v l) (hs : s.size ≤ 9223372036854775807) (hT : Tabs w) (hl : l.length ≤ 140737000000000) (hB : B ≤ w.heap.size) :
    Calls Tryd.prog 51 #[.pointer (some ⟨p, 0, none⟩), .string s] w fun e w' => e = .returned (.int .i64 (tE s : Nat)) ∧ ∃ v', WPost w w' B p v v' (l ++ tM s) := by
  rcases t_cases s with ⟨hp, e1, e2⟩ | ⟨hp, hl', e1, e2⟩ | ⟨hp, hl', e1, e2⟩
  · rw [e1, e2, List.append_nil]
    exact (wtext_bad B p v l s w h hs hT hp).mono fun e w' hh => ⟨hh.1, v, hh.2⟩
  · rw [e1, e2, List.append_nil]
    exact (wtext_long B p v l s w h hs hT hp hl').mono fun e w' hh => ⟨hh.1, v, hh.2⟩
  · rw [e1, e2]
    exact wtext_ok B p v l s w h hT hp hl' (by omega) hB

set_option maxHeartbeats 1000000 in
theorem rtextw_bad (s : ByteArray) (w : World) (hs : s.size ≤ 9223372036854775807) (hp : plainB s.data.toList = false) :
    Calls Tryd.prog 52 #[.string s] w fun e w' => e = .returned (.tuple #[.slice none 0 0, .int .i64 13]) ∧ w' = w := by
  have HP : Hid (Calls Tryd.prog 80 #[.string s] w fun e w' => e = .returned (.bool false) ∧ w' = w) := by
    have := refPlain_any s w hs; rwa [hp] at this
  clear hp
  go_enter Tryd.func52, Tryd.ntmps52
  go_wp2_with fail
  refine HP.out.mono ?_
  rintro e w1 ⟨rfl, hw⟩
  rw [hw]; clear hw
  go_wp2
  go_ret2
  exact ⟨rfl, rfl⟩
set_option maxHeartbeats 1000000 in
theorem rtextw_long (s : ByteArray) (w : World) (hs : s.size ≤ 9223372036854775807) (hp : plainB s.data.toList = true) (hl : 4096 < s.size) :
    Calls Tryd.prog 52 #[.string s] w fun e w' => e = .returned (.tuple #[.slice none 0 0, .int .i64 12]) ∧ w' = w := by
  have HP : Hid (Calls Tryd.prog 80 #[.string s] w fun e w' => e = .returned (.bool true) ∧ w' = w) := by
    have := refPlain_any s w hs; rwa [hp] at this
  clear hp
  go_enter Tryd.func52, Tryd.ntmps52
  go_wp2_with fail
  refine HP.out.mono ?_
  rintro e w1 ⟨rfl, hw⟩
  rw [hw]; clear hw
  go_wp2
  go_ret2
  exact ⟨rfl, rfl⟩
set_option maxHeartbeats 1000000 in
theorem rtextw_ok (s : ByteArray) (w : World) (hp : plainB s.data.toList = true) (hl : s.size ≤ 4096) :
    Calls Tryd.prog 52 #[.string s] w fun e w' => ∃ ao cap, e = .returned (.tuple #[.slice ao (4 + s.size) cap, .int .i64 0]) ∧ w'.ownsRow w.heap.size 5 1 (.slice ao (4 + s.size) cap) (4 + s.size) ((bigTo s.size 4 4 ++ sbytes s).map bv) ∧ Below w.heap.size w w' := by
  obtain ⟨i0, hi, hz0, hz1, hz2⟩ := info_parts Tryd.info5
  have HP : Hid (Calls Tryd.prog 80 #[.string s] w fun e w' => e = .returned (.bool true) ∧ w' = w) := by
    have := refPlain_any s w (by omega); rwa [hp] at this
  have HBg : Hid (Calls Tryd.prog 42 #[.int .u64 (s.size : Int), .int .i64 4] w fun e w' => e = .returned (.slice (some ⟨w.heap.size, 0, none⟩) 4 4) ∧ w'.ownsRow w.heap.size 5 1 (.slice (some ⟨w.heap.size, 0, none⟩) 4 4) 4 ((bigTo s.size 4 4).map bv) ∧ Below w.heap.size w w') := rbig_any s.size 4 w (by omega) (by decide)
  clear hp
  go_enter Tryd.func52, Tryd.ntmps52
  go_wp2_with fail
  refine HP.out.mono ?_
  rintro e w1 ⟨rfl, hw⟩
  rw [hw]; clear hw
  go_wp2_with fail
  refine HBg.out.mono ?_
  rintro e w1 ⟨rfl, ho1, hb1⟩
  have HO1 : Hid (w1.ownsRow w.heap.size 5 1 (.slice (some ⟨w.heap.size, 0, none⟩) 4 4) 4 ((bigTo s.size 4 4).map bv)) := ho1
  have HB1 : Hid (Below w.heap.size w w1) := hb1
  clear ho1 hb1
  go_wp2_with (at_builtin; refine wpList_append_two_string _ rfl _ _ 37 9 rfl w.heap.size 5 i0 Tryd.underlying37 Tryd.underlying9 hi hz0 hz1 hz2 (.slice (some ⟨w.heap.size, 0, none⟩) 4 4) 4 ((bigTo s.size 4 4).map bv) rfl HO1.out s rfl (by omega) HB1.out.size ?_)
  intro ao3 cp3 w3 ho hg hf
  have HO3 : Hid (w3.ownsRow w.heap.size 5 1 (.slice ao3 (4 + s.size) cp3) (4 + s.size) ((bigTo s.size 4 4 ++ sbytes s).map bv)) := by
    rw [List.map_append, ← strCells_bv]; exact ho
  have HB3 : Hid (Below w.heap.size w w3) := HB1.out.grown hg HB1.out.size (fun g hg' => by simp [Value.ownBlock] at hg'; omega)
  clear ho hg hf
  go_wp2
  go_ret2
  exact ⟨_, _, rfl, HO3.out, HB3.out⟩
theorem rtextw_any (s : ByteArray) (w : World) (hs : s.size ≤ 9223372036854775807) :
    Calls Tryd.prog 52 #[.string s] w fun e w' => ∃ ao cap, e = .returned (.tuple #[.slice ao (tM s).length cap, .int .i64 (tE s : Nat)]) ∧ w'.ownsRow w.heap.size 5 1 (.slice ao (tM s).length cap) (tM s).length ((tM s).map bv) ∧ Below w.heap.size w w' := by
  rcases t_cases s with ⟨hp, e1, e2⟩ | ⟨hp, hl', e1, e2⟩ | ⟨hp, hl', e1, e2⟩
  · rw [e1, e2]
    refine (rtextw_bad s w hs hp).mono fun e w' hh => ⟨none, 0, hh.1, World.ownsRow_nil _ _ _ _, ?_⟩
    rw [hh.2]; exact Below.refl _ _
  · rw [e1, e2]
    refine (rtextw_long s w hs hp hl').mono fun e w' hh => ⟨none, 0, hh.1, World.ownsRow_nil _ _ _ _, ?_⟩
    rw [hh.2]; exact Below.refl _ _
  · rw [e1, e2, List.length_append, bigTo_length, sbytes_length]
    exact rtextw_ok s w hp hl'
end Go.Proofs.YtpkobgnbjmefnabDoor
