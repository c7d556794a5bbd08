import Derived.Test.YtncajaihojhkkaaGreatXT
import Derived.Test.YtncajaihojhkkaaGreatXZ
namespace Go.Proofs.YtncajaihojhkkaaGreat.B
open Go.RowKit Go.Sort Go.Lib
set_option linter.unusedVariables false
set_option linter.unusedSimpArgs false
set_option maxRecDepth 100000

theorem isNaN_any (x : Int) (w : World) : Calls Tryz.prog 73 #[.int .i64 x] w fun e w' => e = .returned (.bool false) ∧ w' = w := by
  go_enter Tryz.func73, Tryz.ntmps73
  go_wp2
  go_ret
  exact ⟨by simp, rfl⟩
theorem compare_any (x y : Int) (w : World) : Calls Tryz.prog 63 #[.int .i64 x, .int .i64 y] w fun e w' => e = .returned (.int .i64 (Lib.compareInt x y)) ∧ w' = w := by
  have key : ∀ r : Int, Lib.compareInt x y = r → Calls Tryz.prog 63 #[.int .i64 x, .int .i64 y] w fun e w' => e = .returned (.int .i64 r) ∧ w' = w := by
    intro r hr
    by_cases h1 : x < y
    · obtain rfl : r = -1 := by rw [← hr]; simp [Lib.compareInt, h1]
      clear hr
      go_enter Tryz.func63, Tryz.ntmps63
      go_wp2_with (go_at_call 73; refine (isNaN_any _ _).mono ?_; rintro e w' ⟨rfl, rfl⟩)
      go_ret
      exact ⟨rfl, rfl⟩
    · by_cases h2 : y < x
      · obtain rfl : r = 1 := by rw [← hr]; simp [Lib.compareInt, h1, h2]
        clear hr
        go_enter Tryz.func63, Tryz.ntmps63
        go_wp2_with (go_at_call 73; refine (isNaN_any _ _).mono ?_; rintro e w' ⟨rfl, rfl⟩)
        go_ret
        exact ⟨rfl, rfl⟩
      · obtain rfl : r = 0 := by rw [← hr]; simp [Lib.compareInt, h1, h2]
        clear hr
        go_enter Tryz.func63, Tryz.ntmps63
        go_wp2_with (go_at_call 73; refine (isNaN_any _ _).mono ?_; rintro e w' ⟨rfl, rfl⟩)
        go_ret
        exact ⟨rfl, rfl⟩
  exact key _ rfl

set_option maxHeartbeats 1000000 in
theorem rising1_any (x y : Int × Int) (W : World) : Calls Tryz.prog 62 #[.agg #[.int .i64 x.1, .int .i64 x.2], .agg #[.int .i64 y.1, .int .i64 y.2]] W fun e w' => e = .returned (.int .i64 (Lib.compareInt x.1 y.1)) ∧ ∃ q os', w' = grow (W.drewN q) os' := by
  have hcon := fun W' => compare_any x.1 y.1 W'
  generalize Lib.compareInt x.1 y.1 = r at hcon ⊢
  go_enter Tryz.func62, Tryz.ntmps62
  go_wp2_with (go_at_call 63; refine (hcon _).mono ?_; rintro e w' ⟨rfl, rfl⟩)
  go_ret
  exact ⟨rfl, 0, _, by rw [alloc_eq_grow, alloc_eq_grow, grow_grow]; rfl⟩
theorem cmpLays (blk off size : Nat) (w : World) : CmpLays Tryz.prog 62 #[] pcell 2 (fun x y => Lib.compareInt x.1 y.1) blk off size w :=
  fun _ _ _ _ x y => rising1_any x y _
theorem ltLo (x y : Int × Int) : ltOf (fun x y : Int × Int => Lib.compareInt x.1 y.1) x y = decide (x.1 < y.1) := by
  unfold ltOf Lib.compareInt
  by_cases h1 : x.1 < y.1
  · simp [h1]
  · by_cases h2 : y.1 < x.1 <;> simp [h1, h2]
theorem swoLo : SWO (ltOf fun x y : Int × Int => Lib.compareInt x.1 y.1) where
  irrefl x := by rw [ltLo]; simp
  trans x y z h1 h2 := by rw [ltLo] at *; simp at *; omega
  ntrans x y z h1 h2 := by rw [ltLo] at *; simp at *; omega

theorem sort_block {enc : (Int × Int) → List Value} {k blk off n : Nat} {w : World} {d : Array (Int × Int)} {os : Array Obj} (i : Nat) (hi : i < w.heap.size) (hne : i ≠ blk) : (sortWorldK enc k w blk off n d os).heap[i]? = w.heap[i]? := by
  unfold sortWorldK grow putRowK putRow mapBlock
  simp only
  rw [Array.getElem?_append_left (by simpa using hi), Array.getElem?_modify, if_neg (Ne.symm hne)]
  rfl
/-- the pairs of a list lie in cells -/
def PRow (w : World) (blk off : Nat) (l : List (Int × Int)) : Prop := ∀ k p, l[k]? = some p → w.cell? ⟨blk, off + k * 2, none⟩ = some (.int .i64 p.1) ∧ w.cell? ⟨blk, off + k * 2 + 1, none⟩ = some (.int .i64 p.2)

/-- a list rises by its beginnings -/
def SortedLo (l : List (Int × Int)) : Prop := ∀ (i j : Nat) (p q : Int × Int), l[i]? = some p → l[j]? = some q → i < j → p.1 ≤ q.1
theorem sortfunc_any {w : World} {B g cap : Nat} {l : List (Int × Int)} (h : w.ownsRow B TRng 2 (.slice (some ⟨g, 0, none⟩) l.length cap) l.length (pcells l)) (hl : l.length < 4611686018427387904) :
    Calls Tryz.prog 61 #[.slice (some ⟨g, 0, none⟩) l.length cap, .func (.func 62) #[] #[]] w fun e w' => e = .returned (.tuple #[]) ∧ ∃ l' : List (Int × Int), l'.Perm l ∧ SortedLo l' ∧ PRow w' g 0 l' ∧ w.heap.size ≤ w'.heap.size ∧ w'.os = w.os ∧ w'.tape = w.tape ∧ w'.output = w.output ∧ ∀ i, i < w.heap.size → i ≠ g → w'.heap[i]? = w.heap[i]? := by
  have eg : ∀ args w, (callFunc 62 args).run Tryz.prog w = .ok (.enter 62 args) w := enters_of Tryz.func62 (by kernel_rfl) rfl
  obtain ⟨k1, k2, k3, k4, k5⟩ := owns_cap h
  have hH : HoldsK pcell 2 w g 0 l.toArray := by
    intro j hj
    rw [size_flatK] at hj
    have hj' : j < l.length * 2 := by simpa using hj
    refine ⟨?_, h.frozenAt _⟩
    rw [Nat.zero_add, h.cellAt j (by omega), get_flatK _ _ _ _ hj]
    have hq : j / 2 < l.length := by omega
    have hget : l[j / 2]? = some (l.toArray[j / 2]!) := by simp [hq]
    obtain ⟨a1, a2⟩ := pcells_get l (j / 2) _ hget
    rcases Nat.mod_two_eq_zero_or_one j with e | e
    · rw [show j = j / 2 * 2 by omega] at a1 ⊢
      rw [show j / 2 * 2 / 2 = j / 2 by omega, show j / 2 * 2 % 2 = 0 by omega]
      simpa [pcell] using a1
    · have e' : j = j / 2 * 2 + 1 := by omega
      rw [e'] at a2 ⊢
      rw [show (j / 2 * 2 + 1) / 2 = j / 2 by omega, show (j / 2 * 2 + 1) % 2 = 1 by omega] at *
      simpa [pcell] using a2
  have hcon := AnyQ.slices_SortFunc Tryz.sortR 2 Tryz.isAgg63 Tryz.sizeOf63 pcell (fun _ => rfl) (fun x v hv => by simp [pcell] at hv; rcases hv with rfl | rfl <;> rfl) (fun x y => Lib.compareInt x.1 y.1) swoLo 62 #[] g 0 cap l.toArray w eg (cmpLays g 0 _ w) hH k4 (by simpa using hl)
  change Calls Tryz.prog 61 _ _ _ at hcon
  have hsz : l.toArray.size = l.length := by simp
  rw [hsz] at hcon
  refine hcon.mono ?_
  rintro e w' ⟨rfl, d', n, os, hp, hs, rfl⟩
  refine ⟨rfl, d'.toList, ?_, ?_, ?_, size_sortWorldK_c _ _ _ _ _ _ _ _, rfl, rfl, rfl, fun i hi hne => sort_block i hi hne⟩
  · have h2 := hp.2.2
    have hd : d'.size = l.length := by rw [hp.1]; simp
    have e1 : d'.extract 0 l.length = d' := by rw [← hd]; simp
    have e2 : l.toArray.extract 0 l.length = l.toArray := by rw [← hsz]; simp
    rw [e1, e2] at h2
    simpa using h2
  · intro i j p q hi hj hij
    have hi' : i < d'.size := by have := (List.getElem?_eq_some_iff.1 hi).1; simpa using this
    have hj' : j < d'.size := by have := (List.getElem?_eq_some_iff.1 hj).1; simpa using this
    have h3 := hs i j (by omega) hij (by rw [← hsz, ← hp.1]; exact hj')
    rw [ltLo] at h3
    have e1 : d'[i]! = p := by
      rw [Array.getElem?_toList] at hi
      rw [getElem!_pos d' i hi']
      rw [Array.getElem?_eq_getElem hi'] at hi; exact Option.some.inj hi
    have e2 : d'[j]! = q := by
      rw [Array.getElem?_toList] at hj
      rw [getElem!_pos d' j hj']
      rw [Array.getElem?_eq_getElem hj'] at hj; exact Option.some.inj hj
    rw [e1, e2] at h3
    simp at h3
    exact h3
  · intro k p hk
    have hH' := holdsK_sortWorldK_c _ _ _ _ _ l.toArray d' n os hH k4 hp.1
    have hk' : k < d'.size := by have := (List.getElem?_eq_some_iff.1 hk).1; simpa using this
    have hpk : d'[k]! = p := by
      have := hk
      rw [Array.getElem?_toList] at this
      rw [getElem!_pos d' k hk']
      have h3 := Array.getElem?_eq_getElem hk'
      rw [h3] at this; exact Option.some.inj this
    have c0 := (hH'.cell (c := 0) hk' (by omega)).1
    have c1 := (hH'.cell (c := 1) hk' (by omega)).1
    rw [hpk] at c0 c1
    exact ⟨by simpa [pcell] using c0, by simpa [pcell] using c1⟩
end Go.Proofs.YtncajaihojhkkaaGreat.B
