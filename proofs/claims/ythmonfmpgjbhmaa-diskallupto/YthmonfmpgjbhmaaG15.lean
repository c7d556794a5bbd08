import Derived.Test.YthmonfmpgjbhmaaG14
namespace Go.Proofs.Ythmonfmpgjbhmaa.K
open Go.RowKit Go.Maps Go.Proofs.Ythmonfmpgjbhmaa Go.MuLone
attribute [local go_sem] Oper.semAt_some
set_option linter.unusedVariables false
set_option linter.unusedSimpArgs false
set_option maxRecDepth 100000

theorem own_form {w : World} {B n : Nat} {v : Value} {l : Bl} (h : w.ownsRow B 5 1 v n (l.map bv)) (hn : 0 < n) : ∃ g cap cur, v = .slice (some ⟨g, 0, none⟩) n cap ∧ B ≤ g ∧ w.heap[g]? = some (.cells cur 5) ∧ ∀ (j x : Nat), l[j]? = some x → cur[j]? = some (bv x) := by
  rcases h.2 with ⟨_, h0⟩ | ⟨g, cap, cur, rfl, hb, hg, hc, _, hsz, ht⟩
  · omega
  · refine ⟨g, cap, cur, rfl, hb, hg, fun j x hx => ?_⟩
    have h1 : (l.map bv)[j]? = some (bv x) := by rw [List.getElem?_map, hx]; rfl
    rw [← ht, List.getElem?_take] at h1
    split at h1
    · simpa using h1
    · cases h1
theorem own_brow {w : World} {B n : Nat} {v : Value} {l : Bl} (h : w.ownsRow B 5 1 v n (l.map bv)) (hl : l.length = n) (hlt : ∀ x ∈ l, x < 256) (hn : n ≤ 140737488351232) : ∃ ao cap, v = .slice ao n cap ∧ BRow w ao cap l := by
  subst hl
  exact BRow.own h hlt hn
/-- what the heads' disk comes to -/
def hd1 : Dk := newDk 2
def hd2 : Dk := wrote hd1 1 (bytesL 7 512)
def hd3 : Dk := readS hd2
def hd4 : Dk := barred hd3
theorem hd3_look : look hd2 1 = bytesL 7 512 := by
  unfold look hd2 wrote hd1 newDk
  simp [lastQ]
theorem hd4_safe0 : hd4.safe 0 = z512 := by
  unfold hd4 barred settled hd3 readS hd2 wrote hd1 newDk
  simp [layTo, upd]
theorem hd4_safe1 : hd4.safe 1 = bytesL 7 512 := by
  unfold hd4 barred settled hd3 readS hd2 wrote hd1 newDk
  simp [layTo, upd]

/-- a disk of one's own -/
structure Hs (w W : World) (b ms ml : Nat) (qv fv : Value) (S : Dk) : Prop where
  rk : RK W 0 b ms ml qv fv S
  bl : Below w.heap.size w W
  own : ∀ i ∈ fp b ms ml qv fv, w.heap.size ≤ i
theorem Hs.later {w W W' : World} {b ms ml : Nat} {qv fv : Value} {S : Dk} (h : Hs w W b ms ml qv fv S) (hb : Below W.heap.size W W') : Hs w W' b ms ml qv fv S := ⟨h.rk.later hb, h.bl.trans (hb.mono h.bl.size), h.own⟩
theorem Hs.step {w W W' : World} {b ms ml ms' ml' : Nat} {qv fv qv' fv' : Value} {S S' : Dk} (h : Hs w W b ms ml qv fv S) (hd : DAct W W' 0 b ms ml ms' ml' qv fv qv' fv' S') : Hs w W' b ms' ml' qv' fv' S' :=
  ⟨hd.rk, h.bl.trans (hd.kp.below h.own h.bl.size), fun i hi => (hd.sub i hi).elim (h.own i) (fun h1 => Nat.le_trans h.bl.size h1)⟩
theorem Hs.start {w W : World} {b ms ml : Nat} {qv fv : Value} {S : Dk} (h : RK W 0 b ms ml qv fv S) (hb : Below w.heap.size w W) (ho : ∀ i ∈ fp b ms ml qv fv, w.heap.size ≤ i) : Hs w W b ms ml qv fv S := ⟨h, hb, ho⟩

set_option maxHeartbeats 8000000 in
theorem heads_any (w : World) : Calls Try.prog 10 #[] w fun r w' => r = .returned (.bool true) ∧ Below w.heap.size w w' := by
  have hnew := new_any w 2 (by decide) (by decide)
  go_enter Try.func10, Try.ntmps10
  go_wp2_with fail
  refine hnew.mono ?_
  clear hnew
  rintro e w1 ⟨b, rfl, ms, ml, hrk, hb1, hf1⟩
  have HS1 : Hid (Hs w w1 b ms ml (.slice none 0 0) (.slice none 0 0) hd1) := ⟨hrk, hb1, hf1⟩
  clear hrk hb1 hf1
  go_wp2_with fail
  have hby := bytes_any w1 7 0 (by decide)
  rw [show blen 0 = 512 from rfl] at hby
  refine Calls.mono hby ?_
  clear hby
  rintro e w2 ⟨v2, rfl, ho2, hb2⟩
  obtain ⟨g2, c2, cur2, rfl, hg2, hk2, hc2⟩ := own_form ho2 (by decide)
  have HS2 : Hid (Hs w w2 b ms ml (.slice none 0 0) (.slice none 0 0) hd1) := HS1.out.later hb2
  have HWr : Hid (Calls Try.prog 23 #[.pointer (some ⟨b, 0, none⟩), .int .i64 1, .slice (some ⟨g2, 0, none⟩) 512 c2] w2 fun r w' => r = .returned (.int .i64 0) ∧ ∃ qv', DAct w2 w' 0 b ms ml ms ml (.slice none 0 0) (.slice none 0 0) qv' (.slice none 0 0) hd2) :=
    write_none (s := 1) HS2.out.rk rfl (by decide) (bytes_ok 7) (by decide) (fun j v hv => by
      rw [List.getElem?_map] at hv
      cases hx : (bytesL 7 512)[j]? with
      | none => rw [hx] at hv; cases hv
      | some x => rw [hx] at hv; cases hv; rw [Nat.zero_add]; exact (cell_of hk2).trans (hc2 j x hx)) (fun hm => by have := HS1.out.rk.lt _ hm; omega)
  clear ho2 hb2 hk2 hc2 hg2
  go_wp2_with fail
  refine Calls.mono HWr.out ?_
  clear HWr
  rintro e w3 ⟨rfl, qv3, h3⟩
  have HS3 : Hid (Hs w w3 b ms ml qv3 (.slice none 0 0) hd2) := HS2.out.step h3
  have HRd : Hid (Calls Try.prog 14 #[.pointer (some ⟨b, 0, none⟩), .int .i64 1] w3 fun r w' => ∃ v, r = .returned (.tuple #[v, .int .i64 0]) ∧ w'.ownsRow w3.heap.size 5 1 v 512 ((look hd2 1).map bv) ∧ DAct w3 w' 0 b ms ml ms ml qv3 (.slice none 0 0) qv3 (.slice none 0 0) hd3) := read_none (s := 1) HS3.out.rk rfl (by decide)
  clear h3 HS2 HS1
  go_wp2_with fail
  refine Calls.mono HRd.out ?_
  clear HRd
  rintro e w4 ⟨v4, rfl, ho4, h4⟩
  rw [hd3_look] at ho4
  have HS4 : Hid (Hs w w4 b ms ml qv3 (.slice none 0 0) hd3) := HS3.out.step h4
  obtain ⟨a4, c4, rfl, hr4⟩ := own_brow ho4 (bytesL_len _ _) (bytesL_lt _ _) (by decide)
  have HR4 : Hid (BRow w4 a4 c4 (bytesL 7 512)) := hr4
  clear h4 HS3 ho4 hr4
  go_wp2_with fail
  have hby := bytes_any w4 7 0 (by decide)
  rw [show blen 0 = 512 from rfl] at hby
  refine Calls.mono hby ?_
  clear hby
  rintro e w5 ⟨v5, rfl, ho5, hb5⟩
  obtain ⟨a5, c5, rfl, hr5⟩ := own_brow ho5 (bytesL_len _ _) (bytesL_lt _ _) (by decide)
  have HS5 : Hid (Hs w w5 b ms ml qv3 (.slice none 0 0) hd3) := HS4.out.later hb5
  have HSm : Hid (Calls Try.prog 16 #[.slice a4 512 c4, .slice a5 512 c5] w5 fun e w' => e = .returned (.bool true) ∧ ∃ q, w' = w5.drewN q) := by
    have h1 := same_any a4 a5 c4 c5 (bytesL 7 512) (bytesL 7 512) w5 (HR4.out.later hb5) hr5
    rw [bytesL_len, decide_eq_true rfl] at h1
    exact h1
  clear ho5 hb5 hr5 HR4 HS4
  go_wp2_with fail
  refine Calls.mono HSm.out ?_
  clear HSm
  rintro e w6 ⟨rfl, q6, rfl⟩
  have HS6 : Hid (Hs w (w5.drewN q6) b ms ml qv3 (.slice none 0 0) hd3) := HS5.out.later ⟨rfl, rfl, rfl, Nat.le_refl _, fun _ _ => rfl⟩
  have HWt : Hid (Calls Try.prog 25 #[.pointer (some ⟨b, 0, none⟩), .int .i64 1] (w5.drewN q6) fun r w' => r = .returned (.bool true) ∧ DAct (w5.drewN q6) w' 0 b ms ml ms ml qv3 (.slice none 0 0) qv3 (.slice none 0 0) hd3) := waits_any (s := 1) HS6.out.rk (by decide)
  clear HS5
  go_wp2_with fail
  refine Calls.mono HWt.out ?_
  clear HWt
  rintro e w7 ⟨rfl, h7⟩
  have HS7 : Hid (Hs w w7 b ms ml qv3 (.slice none 0 0) hd3) := HS6.out.step h7
  have HBa := barrier_none HS7.out.rk rfl (by decide)
  clear h7 HS6
  go_wp2_with fail
  refine Calls.mono HBa ?_
  clear HBa
  rintro e w8 ⟨rfl, ml8, h8⟩
  have HS8 : Hid (Hs w w8 b ms ml8 (.slice none 0 0) (.slice none 0 0) hd4) := HS7.out.step h8
  have HIm := image_any HS8.out.rk
  clear h8 HS7
  go_wp2_with fail
  refine Calls.mono HIm ?_
  clear HIm
  rintro e w9 ⟨v9, rfl, ho9, h9⟩
  have HS9 : Hid (Hs w w9 b ms ml8 (.slice none 0 0) (.slice none 0 0) hd4) := HS8.out.step h9
  obtain ⟨g9, c9, cur9, rfl, hg9, hk9, hc9⟩ := own_form ho9 (by decide)
  have hl4 : ∀ s, s < 2 → (hd4.safe s).length = 512 := fun s hs => by
    have : s = 0 ∨ s = 1 := by omega
    rcases this with rfl | rfl
    · rw [hd4_safe0]; exact okZ.len
    · rw [hd4_safe1]; exact (bytes_ok 7).len
  have k0 : w9.cell? ⟨g9, 0, none⟩ = some (.int .u8 0) := (cell_of hk9).trans (hc9 0 0 (by
    have := imgL_get (n := 2) (s := 0) (j := 0) hl4 (by decide) (by decide)
    rw [hd4_safe0] at this
    exact this))
  have k1 : w9.cell? ⟨g9, 512, none⟩ = some (.int .u8 7) := (cell_of hk9).trans (hc9 512 7 (by
    have := imgL_get (n := 2) (s := 1) (j := 0) hl4 (by decide) (by decide)
    rw [hd4_safe1] at this
    exact this))
  have HSe := sectors_any HS9.out.rk
  clear h9 HS8 ho9 hk9 hc9 hl4 hg9
  go_wp2_with fail
  refine Calls.mono HSe ?_
  rintro e w10 ⟨rfl, h10⟩
  have HS10 : Hid (Hs w w10 b ms ml8 (.slice none 0 0) (.slice none 0 0) hd4) := HS9.out.step h10
  clear h10 HS9 HSe
  go_wp2
  go_ret
  exact ⟨rfl, HS10.out.bl⟩
end Go.Proofs.Ythmonfmpgjbhmaa.K

namespace Go.Proofs.Ythmonfmpgjbhmaa.K
open Go.RowKit Go.Maps Go.Proofs.Ythmonfmpgjbhmaa
attribute [local go_sem] Oper.semAt_some
set_option linter.unusedVariables false
set_option linter.unusedSimpArgs false
set_option maxRecDepth 100000

/-- does an operation meet a fault? -/
def touch (f : Flt) (k s : Int) : Bool := decide (f.kind = k) && (decide (k = 3) || decide (f.sector = -1) || decide (f.sector = s))
/-- what an operation leaves of the faults, and the fault that it fails by -/
def failL (k s : Int) : List Flt → List Flt × Option Flt
  | [] => ([], none)
  | f :: fs =>
    if touch f k s = false then (f :: (failL k s fs).1, (failL k s fs).2)
    else if 0 < f.after then ({ f with after := f.after - 1 } :: (failL k s fs).1, (failL k s fs).2)
    else if f.times - 1 = 0 then (fs, some { f with times := f.times - 1 })
    else ({ f with times := f.times - 1 } :: fs, some { f with times := f.times - 1 })
theorem touches_any (w : World) (f : Flt) (k s : Int) : Calls Try.prog 48 #[.agg (fcell f).toArray, .int .i64 k, .int .i64 s] w fun r w' => r = .returned (.bool (touch f k s)) ∧ Below w.heap.size w w' := by
  have HT : Hid (∀ b : Bool, touch f k s = b → Value.bool b = .bool (touch f k s)) := fun b h => by rw [h]
  have hT : touch f k s = (decide (f.kind = k) && (decide (k = 3) || decide (f.sector = -1) || decide (f.sector = s))) := rfl
  unfold fcell
  by_cases h1 : f.kind = k
  · by_cases h2 : k = 3
    · have hv : touch f k s = true := by rw [hT]; simp [h1, h2]
      rw [hv]
      clear hT hv HT
      go_enter Try.func48, Try.ntmps48
      go_wp2
      go_ret
      exact ⟨rfl, (Below.refl _ w).alloc (Nat.le_refl _) _⟩
    · by_cases h3 : f.sector = -1
      · have hv : touch f k s = true := by rw [hT]; simp [h1, h3]
        rw [hv]
        clear hT hv HT
        have e2 : (k == 3) = false := by simpa using h2
        go_enter Try.func48, Try.ntmps48
        go_wp2
        go_ret
        exact ⟨rfl, (Below.refl _ w).alloc (Nat.le_refl _) _⟩
      · by_cases h4 : f.sector = s
        · have hv : touch f k s = true := by rw [hT]; simp [h1, h4]
          rw [hv]
          clear hT hv HT
          have e2 : (k == 3) = false := by simpa using h2
          have e3 : (f.sector == -1) = false := by simpa using h3
          go_enter Try.func48, Try.ntmps48
          go_wp2
          go_ret
          exact ⟨rfl, (Below.refl _ w).alloc (Nat.le_refl _) _⟩
        · have hv : touch f k s = false := by rw [hT]; simp [h1, h2, h3, h4]
          rw [hv]
          clear hT hv HT
          have e2 : (k == 3) = false := by simpa using h2
          have e3 : (f.sector == -1) = false := by simpa using h3
          have e4 : (f.sector == s) = false := by simpa using h4
          go_enter Try.func48, Try.ntmps48
          go_wp2
          go_ret
          exact ⟨by simp [e4, h4], (Below.refl _ w).alloc (Nat.le_refl _) _⟩
  · have hv : touch f k s = false := by rw [hT]; simp [h1]
    rw [hv]
    clear hT hv HT
    have e1 : (f.kind == k) = false := by simpa using h1
    go_enter Try.func48, Try.ntmps48
    go_wp2
    go_ret
    exact ⟨rfl, (Below.refl _ w).alloc (Nat.le_refl _) _⟩
end Go.Proofs.Ythmonfmpgjbhmaa.K
