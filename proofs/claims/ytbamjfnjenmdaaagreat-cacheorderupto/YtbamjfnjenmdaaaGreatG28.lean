import Derived.Shelf.Small.Wraps
import Derived.Shelf.Sort.Plain
import Derived.Shelf.Slices.CompactI
import Derived.Shelf.Slices.In.SortNone
import Derived.Test.YtbamjfnjenmdaaaGreatProg
import Derived.Test.YtbamjfnjenmdaaaGreatG27
import Derived.Maps.RangeWalk
namespace Go.Proofs
open Go.Shelf
def Tryz.lays215_ren : Go.Shelf.Ren := ⟨fun | 215 => 106 | n => n, fun | 3 => 3 | 4 => 4 | n => n, fun | n => n⟩
theorem Tryz.lays215 : Go.Proofs.Lays.n215 Tryz.prog Tryz.lays215_ren := {
  mixed := by kernel_rfl
  f215 := Tryz.func106.trans (congrArg some (by kernel_rfl))
  t3 := Tryz.underlying3
  a3 := Tryz.isAgg3
  z3 := Tryz.sizeOf3
  v3 := Tryz.zeroValue3
  t4 := Tryz.underlying4
  a4 := Tryz.isAgg4
  z4 := Tryz.sizeOf4
  v4 := Tryz.zeroValue4 }
open Go.RowKit in
theorem Tryz.cmp_isNaN_int (x : Int) (w : World) :
    Calls Tryz.prog 106 #[.int .i64 x] w fun e w' => e = .returned (.bool false) ∧ w' = w := Any.cmp_isNaN_int Tryz.lays215 x w
def Tryz.lays122_ren : Go.Shelf.Ren := ⟨fun | 122 => 70 | 215 => 106 | n => n, fun | 3 => 3 | 4 => 4 | n => n, fun | n => n⟩
theorem Tryz.lays122 : Go.Proofs.Lays.n122 Tryz.prog Tryz.lays122_ren := {
  mixed := by kernel_rfl
  f122 := Tryz.func70.trans (congrArg some (by kernel_rfl))
  f215 := Tryz.func106.trans (congrArg some (by kernel_rfl))
  t3 := Tryz.underlying3
  a3 := Tryz.isAgg3
  z3 := Tryz.sizeOf3
  v3 := Tryz.zeroValue3
  t4 := Tryz.underlying4
  a4 := Tryz.isAgg4
  z4 := Tryz.sizeOf4
  v4 := Tryz.zeroValue4 }
open Go.RowKit in
theorem Tryz.cmp_Compare_int (x y : Int) (w : World) :
    Calls Tryz.prog 70 #[.int .i64 x, .int .i64 y] w fun e w' => e = .returned (.int .i64 (Lib.compareInt x y)) ∧ w' = w := Any.cmp_Compare_int Tryz.lays122 x y w
def Tryz.lays189_ren : Go.Shelf.Ren := ⟨fun | 189 => 39 | 125 => 62 | 257 => 61 | 128 => 90 | 129 => 91 | 294 => 81 | 295 => 82 | 296 => 83 | 297 => 84 | 298 => 85 | 299 => 86 | 216 => 87 | 300 => 88 | 301 => 89 | 328 => 111 | 329 => 112 | 330 => 113 | 331 => 114 | 332 => 115 | 215 => 106 | 343 => 128 | n => n, fun | 28 => 33 | 3 => 3 | 46 => 133 | 0 => 0 | 51 => 102 | 53 => 88 | 4 => 4 | 183 => 160 | 182 => 159 | 131 => 98 | 5 => 5 | 9 => 9 | 218 => 182 | 222 => 186 | 228 => 195 | 229 => 196 | n => n, fun | n => n⟩
theorem Tryz.lays189 : Go.Proofs.Lays.n189 Tryz.prog Tryz.lays189_ren := {
  mixed := by kernel_rfl
  f125 := Tryz.func62.trans (congrArg some (by kernel_rfl))
  f128 := Tryz.func90.trans (congrArg some (by kernel_rfl))
  f129 := Tryz.func91.trans (congrArg some (by kernel_rfl))
  f189 := Tryz.func39.trans (congrArg some (by kernel_rfl))
  f215 := Tryz.func106.trans (congrArg some (by kernel_rfl))
  f216 := Tryz.func87.trans (congrArg some (by kernel_rfl))
  f257 := Tryz.func61.trans (congrArg some (by kernel_rfl))
  f294 := Tryz.func81.trans (congrArg some (by kernel_rfl))
  f295 := Tryz.func82.trans (congrArg some (by kernel_rfl))
  f296 := Tryz.func83.trans (congrArg some (by kernel_rfl))
  f297 := Tryz.func84.trans (congrArg some (by kernel_rfl))
  f298 := Tryz.func85.trans (congrArg some (by kernel_rfl))
  f299 := Tryz.func86.trans (congrArg some (by kernel_rfl))
  f300 := Tryz.func88.trans (congrArg some (by kernel_rfl))
  f301 := Tryz.func89.trans (congrArg some (by kernel_rfl))
  f328 := Tryz.func111.trans (congrArg some (by kernel_rfl))
  f329 := Tryz.func112.trans (congrArg some (by kernel_rfl))
  f330 := Tryz.func113.trans (congrArg some (by kernel_rfl))
  f331 := Tryz.func114.trans (congrArg some (by kernel_rfl))
  f332 := Tryz.func115.trans (congrArg some (by kernel_rfl))
  f343 := Tryz.func128.trans (congrArg some (by kernel_rfl))
  t0 := Tryz.underlying0
  a0 := Tryz.isAgg0
  z0 := Tryz.sizeOf0
  v0 := Tryz.zeroValue0
  t3 := Tryz.underlying3
  a3 := Tryz.isAgg3
  z3 := Tryz.sizeOf3
  v3 := Tryz.zeroValue3
  t4 := Tryz.underlying4
  a4 := Tryz.isAgg4
  z4 := Tryz.sizeOf4
  v4 := Tryz.zeroValue4
  t5 := Tryz.underlying5
  a5 := Tryz.isAgg5
  z5 := Tryz.sizeOf5
  v5 := Tryz.zeroValue5
  t9 := Tryz.underlying9
  a9 := Tryz.isAgg9
  z9 := Tryz.sizeOf9
  v9 := Tryz.zeroValue9
  t28 := Tryz.underlying33
  a28 := Tryz.isAgg33
  z28 := Tryz.sizeOf33
  v28 := Tryz.zeroValue33
  t46 := Tryz.underlying133
  a46 := Tryz.isAgg133
  z46 := Tryz.sizeOf133
  v46 := Tryz.zeroValue133
  t51 := Tryz.underlying102
  a51 := Tryz.isAgg102
  z51 := Tryz.sizeOf102
  v51 := Tryz.zeroValue102
  t53 := Tryz.underlying88
  a53 := Tryz.isAgg88
  z53 := Tryz.sizeOf88
  v53 := Tryz.zeroValue88
  t131 := Tryz.underlying98
  a131 := Tryz.isAgg98
  z131 := Tryz.sizeOf98
  v131 := Tryz.zeroValue98
  t182 := Tryz.underlying159
  a182 := Tryz.isAgg159
  z182 := Tryz.sizeOf159
  v182 := Tryz.zeroValue159
  t183 := Tryz.underlying160
  a183 := Tryz.isAgg160
  z183 := Tryz.sizeOf160
  v183 := Tryz.zeroValue160
  t218 := Tryz.underlying182
  a218 := Tryz.isAgg182
  z218 := Tryz.sizeOf182
  v218 := Tryz.zeroValue182
  t222 := Tryz.underlying186
  a222 := Tryz.isAgg186
  z222 := Tryz.sizeOf186
  v222 := Tryz.zeroValue186
  t228 := Tryz.underlying195
  a228 := Tryz.isAgg195
  z228 := Tryz.sizeOf195
  v228 := Tryz.zeroValue195
  t229 := Tryz.underlying196
  a229 := Tryz.isAgg196
  z229 := Tryz.sizeOf196
  v229 := Tryz.zeroValue196 }
open Go.Sort Go.RowKit in
theorem Tryz.slices_Sort_int (blk off cap : Nat) (zs : List Int) (w : World) (hH : Holds (Value.int .i64) w blk off zs.toArray) (hblk : blk < w.heap.size) (hsz : zs.length < 4611686018427387904) :
    Calls Tryz.prog 39 #[.slice (some ⟨blk, off, none⟩) zs.length cap] w fun e w' =>
      e = .returned (.tuple #[]) ∧ ∃ n os, w' = grow (putRow (Value.int .i64) (Sort.ahead w n) blk off (zs.mergeSort fun x y => decide (x ≤ y)).toArray) os := Any.slices_Sort_int Tryz.lays189 blk off cap zs w hH hblk hsz
def Tryz.laysNm220_ren : Go.Shelf.Ren := ⟨fun | 20 => 40 | n => n, fun | 22 => 33 | 3 => 3 | 4 => 4 | 0 => 0 | n => n, fun | n => n⟩
theorem Tryz.laysNm220 : Go.Proofs.Lays2.n20 Tryz.prog Tryz.laysNm220_ren := {
  mixed := by kernel_rfl
  f20 := Tryz.func40.trans (congrArg some (by kernel_rfl))
  t0 := Tryz.underlying0
  a0 := Tryz.isAgg0
  z0 := Tryz.sizeOf0
  v0 := Tryz.zeroValue0
  t3 := Tryz.underlying3
  a3 := Tryz.isAgg3
  z3 := Tryz.sizeOf3
  v3 := Tryz.zeroValue3
  t4 := Tryz.underlying4
  a4 := Tryz.isAgg4
  z4 := Tryz.sizeOf4
  v4 := Tryz.zeroValue4
  t22 := Tryz.underlying33
  a22 := Tryz.isAgg33
  z22 := Tryz.sizeOf33
  v22 := Tryz.zeroValue33
  i3 := by kernel_rfl }
open Go.RowKit Go.Lib Go.Sort in
theorem Tryz.slices_Compact_int (blk off cap : Nat) (zs : List Int) (w : World) (hH : Holds (Value.int .i64) w blk off zs.toArray) (hsz : zs.length ≤ 9223372036854775807) (hcap : zs.length ≤ cap) :
    Calls Tryz.prog 40 #[.slice (some ⟨blk, off, none⟩) zs.length cap] w fun e w' => e = .returned (.slice (some ⟨blk, off, none⟩) (Lib.compact zs).length cap) ∧ ∃ q, w' = putRow (Value.int .i64) (Sort.ahead w q) blk off (Lib.compact zs ++ List.replicate (zs.length - (Lib.compact zs).length) 0).toArray := Any.slices_Compact_int Tryz.laysNm220 blk off cap zs w hH hsz hcap
open Go.RowKit Go.Lib Go.Sort in
theorem Tryz.slices_Compact_int_empty (a : Option Addr) (cap : Nat) (w : World) :
    Calls Tryz.prog 40 #[.slice a 0 cap] w fun e w' => e = .returned (.slice a 0 cap) ∧ w' = w := Any.slices_Compact_int_empty Tryz.laysNm220 a cap w
open Go.RowKit Go.Sort in
theorem Tryz.slices_Sort_int_none (p : Option Addr) (cap : Nat) (w : World) :
    Calls Tryz.prog 39 #[.slice p 0 cap] w fun e w' => e = .returned (.tuple #[]) ∧ w' = w := Any.slices_Sort_int_none Tryz.lays189 p cap w
end Go.Proofs

namespace Go.Proofs.YtbamjfnjenmdaaaGreat.C
open Go.RowKit Go.Maps Go.Shelf Go.Sort Go.Proofs.YtbamjfnjenmdaaaGreat
attribute [local go_sem] Oper.semAt_some
set_option linter.unusedVariables false
set_option linter.unusedSimpArgs false
set_option maxRecDepth 100000

/-- numbers as values -/
def IV (l : List Int) : List Value := l.map (.int .i64)
theorem IV_get {ks : List Int} {k : Nat} {x : Int} (h : ks[k]? = some x) : (IV ks)[k]? = some (.int .i64 x) := by unfold IV; rw [List.getElem?_map, h]; rfl
theorem int_form {w : World} {B n : Nat} {v : Value} {xs : List Value} (h : w.ownsRow B TIn 1 v n xs) : ∃ ao cap, v = .slice ao n cap := by
  rcases h.2 with ⟨hv, hn⟩ | ⟨g, cap, cur, hv, _⟩
  · exact ⟨none, 0, by rw [hv, hn]⟩
  · exact ⟨_, _, hv⟩
/-- the numbers in their order -/
def sortI (l : List Int) : List Int := l.mergeSort fun x y => decide (x ≤ y)
theorem sortI_perm (l : List Int) : (sortI l).Perm l := List.mergeSort_perm _ _
theorem sortI_sorted (l : List Int) : (sortI l).Pairwise (· ≤ ·) := by
  have := List.pairwise_mergeSort (le := fun x y : Int => decide (x ≤ y)) (fun a b c h1 h2 => by simp at *; omega) (fun a b => by simp; omega) l
  exact this.imp (by simp)
theorem sorted_unique : ∀ {a b : List Int}, a.Perm b → a.Pairwise (· ≤ ·) → b.Pairwise (· ≤ ·) → a = b
  | [], b, h, _, _ => (List.nil_perm.1 h).symm
  | x :: a, [], h, _, _ => absurd h (by simp)
  | x :: a, y :: b, h, ha, hb => by
    have hx : x ∈ y :: b := h.mem_iff.1 (by simp)
    have hy : y ∈ x :: a := h.mem_iff.2 (by simp)
    have e : x = y := by
      rcases List.mem_cons.1 hx with rfl | hx
      · rfl
      · rcases List.mem_cons.1 hy with rfl | hy
        · rfl
        · have h1 := (List.pairwise_cons.1 ha).1 y hy
          have h2 := (List.pairwise_cons.1 hb).1 x hx
          omega
    subst e
    rw [sorted_unique (List.Perm.cons_inv h) (List.pairwise_cons.1 ha).2 (List.pairwise_cons.1 hb).2]
theorem sortI_congr {a b : List Int} (h : a.Perm b) : sortI a = sortI b := sorted_unique ((sortI_perm a).trans (h.trans (sortI_perm b).symm)) (sortI_sorted a) (sortI_sorted b)
theorem ahead_block (w : World) (n i : Nat) : (Sort.ahead w n).heap[i]? = w.heap[i]? := rfl
/-- a sorted row of one's own -/
theorem sort_c {w : World} {B : Nat} {v : Value} {zs : List Int} (h : w.ownsRow B TIn 1 v zs.length (IV zs)) (hl : zs.length < 4611686018427387904) :
    Calls Tryz.prog 39 #[v] w fun e w' => e = .returned (.tuple #[]) ∧ w'.ownsRow B TIn 1 v zs.length (IV (sortI zs)) ∧ w'.os = w.os ∧ w'.tape = w.tape ∧ w'.output = w.output ∧ w.heap.size ≤ w'.heap.size ∧ ∀ i, i < w.heap.size → v.ownBlock ≠ some i → w'.heap[i]? = w.heap[i]? := by
  rcases h.2 with ⟨rfl, h0⟩ | ⟨g, cap, cur, rfl, hb, hg, hnc, hcm, hcs, htake⟩
  · have hz : zs = [] := List.length_eq_zero_iff.1 h0
    subst hz
    refine (Tryz.slices_Sort_int_none none 0 w).mono ?_
    rintro e w' ⟨rfl, rfl⟩
    have e : sortI [] = [] := by simp [sortI]
    rw [e]
    exact ⟨rfl, h, rfl, rfl, rfl, Nat.le_refl _, fun _ _ _ => rfl⟩
  · have hH : Holds (Value.int .i64) w g 0 zs.toArray := by
      intro j hj
      have hj' : j < zs.length := by simpa using hj
      have hx : zs[j]? = some (zs.toArray[j]!) := by simp [hj']
      have c1 := h.cells (g := g) rfl j _ (IV_get hx)
      rw [WideShapes.add_plain] at c1
      exact ⟨c1, h.frozenAt _⟩
    refine (Tryz.slices_Sort_int g 0 cap zs w hH (Array.getElem?_eq_some_iff.1 hg).1 hl).mono ?_
    rintro e w' ⟨rfl, n, os, rfl⟩
    have hlen : (sortI zs).length = zs.length := (sortI_perm zs).length_eq
    have hblk : ∀ i, i < w.heap.size → i ≠ g → (grow (putRow (Value.int .i64) (Sort.ahead w n) g 0 (sortI zs).toArray) os).heap[i]? = w.heap[i]? := fun i hi hne => by
      unfold grow putRow mapBlock
      simp only
      rw [Array.getElem?_append_left (by simpa using hi), Array.getElem?_modify, if_neg (Ne.symm hne)]
      rfl
    have hself : (grow (putRow (Value.int .i64) (Sort.ahead w n) g 0 (sortI zs).toArray) os).heap[g]? = some (.cells (putCells (Value.int .i64) 0 (sortI zs).toArray cur) TIn (0, 0)) := by
      unfold grow putRow mapBlock
      simp only
      rw [Array.getElem?_append_left (by simpa using (Array.getElem?_eq_some_iff.1 hg).1), Array.getElem?_modify, if_pos rfl, ahead_block, hg]
      rfl
    refine ⟨rfl, ⟨by simp [IV, hlen], .inr ⟨g, cap, _, rfl, hb, hself, hnc, hcm, by simp [putCells, hcs], ?_⟩⟩, rfl, rfl, rfl, ?_, fun i hi hne => hblk i hi (fun e => hne (by rw [e]; rfl))⟩
    · refine List.ext_getElem? fun i => ?_
      rw [List.getElem?_take]
      by_cases hi : i < zs.length * 1
      · rw [if_pos hi]
        have hi' : i < (sortI zs).length := by omega
        have hic : i < cur.size := by rw [hcs]; omega
        rw [Array.getElem?_toList, putCells, Array.getElem?_mapIdx, Array.getElem?_eq_getElem hic]
        simp only [Option.map_some]
        rw [if_pos ⟨by omega, by simpa using hi'⟩, IV_get (x := (sortI zs)[i]) (List.getElem?_eq_getElem hi')]
        simp [hi']
      · rw [if_neg hi, List.getElem?_eq_none (by simp [IV, hlen]; omega)]
    · unfold grow putRow mapBlock
      simp
end Go.Proofs.YtbamjfnjenmdaaaGreat.C

namespace Go.Proofs.YtbamjfnjenmdaaaGreat.C
open Go.RowKit Go.Maps Go.Shelf Go.Sort Go.Proofs.YtbamjfnjenmdaaaGreat
attribute [local go_sem] Oper.semAt_some
set_option linter.unusedVariables false
set_option linter.unusedSimpArgs false
set_option maxRecDepth 100000

/-- a line is clean from now on -/
def cleanL (L : List Ln) (s : Int) : List Ln := L.map fun x => if (x.sec : Int) = s then cleaned x else x
theorem cleanL_split {L1 L2 : List Ln} {l : Ln} (hd : ((L1 ++ l :: L2).map (fun l => (l.sec : Int))).Nodup) : cleanL (L1 ++ l :: L2) l.sec = L1 ++ cleaned l :: L2 := by
  simp only [List.map_append, List.map_cons, List.nodup_append, List.nodup_cons, List.mem_map, List.mem_cons] at hd
  unfold cleanL
  rw [List.map_append, List.map_cons, if_pos rfl]
  congr 1
  · conv => rhs; rw [← List.map_id L1]
    refine List.map_congr_left fun x hx => ?_
    rw [if_neg (fun e => hd.2.2 x.sec ⟨x, hx, rfl⟩ l.sec (.inl rfl) e)]; rfl
  · congr 1
    conv => rhs; rw [← List.map_id L2]
    refine List.map_congr_left fun x hx => ?_
    rw [if_neg (fun e => hd.2.1.1 ⟨x, hx, e⟩)]; rfl
def wbE (S : K.Dk) (C : Ch) (s : Int) : Int := match lineAt C.L s with
  | some l => if K.wrE S l.sec l.dat = 0 then 0 else 33
  | none => 0
def wbS (S : K.Dk) (C : Ch) (s : Int) : K.Dk := match lineAt C.L s with
  | some l => K.wrS S l.sec l.dat
  | none => S
def wbC (S : K.Dk) (C : Ch) (s : Int) : Ch := match lineAt C.L s with
  | some l => if K.wrE S l.sec l.dat = 0 then { C with L := cleanL C.L s, st := { C.st with written := K.inc C.st.written } } else C
  | none => C
theorem wb_c {w : World} {P : Loc} {S : K.Dk} {C : Ch} (h : RC w P S C) (hf : K.FsOk S.fs) (hq : S.q.length < 1048576) {s : Int} (hs : ∃ l ∈ C.L, (l.sec : Int) = s) :
    Calls Tryz.prog 43 #[.pointer (some ⟨P.bc, 0, none⟩), .int .i64 s] w fun r w' => r = .returned (.int .i64 (wbE S C s)) ∧ ∃ P', CAct w w' P P' C (wbS S C s) (wbC S C s) := by
  obtain ⟨l, hl, rfl⟩ := hs
  obtain ⟨L1, L2, hL, _, _⟩ := lineAt_split (h.atLine hl)
  unfold wbE wbS wbC
  rw [h.atLine hl]
  simp only
  have hd := h.sd
  rw [hL] at hd
  have := writeBack_c h hf hq hL
  rw [show cleanL C.L l.sec = L1 ++ cleaned l :: L2 by rw [hL]; exact cleanL_split hd]
  exact this
/-- how many lines are dirty -/
def dirtyN (L : List Ln) : Nat := (L.filter (·.dirty)).length
theorem dirtyN_clean {L1 L2 : List Ln} {l : Ln} (hd : l.dirty = true) : dirtyN (L1 ++ cleaned l :: L2) + 1 = dirtyN (L1 ++ l :: L2) := by
  simp [dirtyN, List.filter_append, List.filter_cons, cleaned, hd]
  omega
theorem wrS_ql (S : K.Dk) (s : Int) (l : List Nat) (h : K.wrE S s l = 33 ∨ K.wrE S s l = 0) : (K.wrS S s l).q.length ≤ S.q.length + 1 := K.wrS_q S s l
/-- the dirty lines of these sectors, in this order, as far as the disk takes them -/
def backs : List Int → K.Dk → Ch → Int × K.Dk × Ch
  | [], S, C => (0, S, C)
  | s :: ks, S, C => if wbE S C s = 0 then backs ks (wbS S C s) (wbC S C s) else (33, wbS S C s, wbC S C s)
theorem backs_cons (s : Int) (ks : List Int) (S : K.Dk) (C : Ch) : backs (s :: ks) S C = if wbE S C s = 0 then backs ks (wbS S C s) (wbC S C s) else (33, wbS S C s, wbC S C s) := rfl
def settleR (ks : List Int) (S : K.Dk) (C : Ch) : Int × K.Dk × Ch :=
  if (backs ks S C).1 = 0 then ((if K.baE (backs ks S C).2.1 = 0 then 0 else 33), K.baS (backs ks S C).2.1, (backs ks S C).2.2) else backs ks S C
theorem wbS_ok {S : K.Dk} {C : Ch} {s : Int} (h : K.FsOk S.fs) : K.FsOk (wbS S C s).fs := by
  unfold wbS
  split
  · exact K.wrS_ok h _ _
  · exact h
/-- these sectors have dirty lines, each once -/
structure Dirt (ks : List Int) (C : Ch) : Prop where
  nd : ks.Nodup
  has : ∀ s ∈ ks, ∃ l ∈ C.L, (l.sec : Int) = s ∧ l.dirty = true
theorem mem_cleanL {L : List Ln} {s : Int} {l : Ln} (hl : l ∈ L) (hs : (l.sec : Int) ≠ s) : l ∈ cleanL L s := by
  unfold cleanL
  exact List.mem_map.2 ⟨l, hl, if_neg hs⟩
theorem Dirt.next {w : World} {P : Loc} {S : K.Dk} {C : Ch} {s : Int} {ks : List Int} (h : RC w P S C) (hd : Dirt (s :: ks) C) (he : wbE S C s = 0) :
    Dirt ks (wbC S C s) ∧ (wbS S C s).q.length + dirtyN (wbC S C s).L ≤ S.q.length + dirtyN C.L := by
  obtain ⟨l, hl, rfl, hdy⟩ := hd.has s (by simp)
  obtain ⟨L1, L2, hL, _, _⟩ := lineAt_split (h.atLine hl)
  have hsd := h.sd
  rw [hL] at hsd
  unfold wbE at he
  unfold wbS wbC
  rw [h.atLine hl] at he ⊢
  simp only at he ⊢
  by_cases hw : K.wrE S l.sec l.dat = 0
  · rw [if_pos hw]
    refine ⟨⟨(List.nodup_cons.1 hd.nd).2, fun t ht => ?_⟩, ?_⟩
    · obtain ⟨x, hx, rfl, hxd⟩ := hd.has t (by simp [ht])
      refine ⟨x, mem_cleanL hx (fun e => (List.nodup_cons.1 hd.nd).1 (by rw [← e]; exact ht)), rfl, hxd⟩
    · have h1 := K.wrS_q S l.sec l.dat
      have h2 : dirtyN (cleanL C.L l.sec) + 1 = dirtyN C.L := by rw [hL, cleanL_split hsd]; exact dirtyN_clean hdy
      simp only
      omega
  · rw [if_neg hw] at he
    omega
set_option maxHeartbeats 4000000 in
theorem settle_c {w : World} {P : Loc} {S : K.Dk} {C : Ch} (h : RC w P S C) (hf : K.FsOk S.fs) (hq : S.q.length + dirtyN C.L < 1048576) {ks : List Int} {v : Value} {B : Nat} (hrow : w.ownsRow B TIn 1 v ks.length (IV ks)) (hfar : ∀ g, v.ownBlock = some g → g ∉ P.fp C.L) (hd : Dirt ks C) (hkl : ks.length ≤ 65536) :
    Calls Tryz.prog 36 #[.pointer (some ⟨P.bc, 0, none⟩), v] w fun r w' => r = .returned (.int .i64 (settleR ks S C).1) ∧ ∃ P', CAct w w' P P' C (settleR ks S C).2.1 (settleR ks S C).2.2 := by
  obtain ⟨ao, cap, rfl⟩ := int_form hrow
  obtain ⟨n, hn⟩ : ∃ n, n = ks.length := ⟨_, rfl⟩
  rw [← hn] at hrow hkl ⊢
  have HN : Hid (n = ks.length) := hn
  have HROW : Hid (∀ w', K.Kp w w' (P.fp C.L) → ∀ (k : Nat) (x : Int), ks[k]? = some x → ∃ g, ao = some ⟨g, 0, none⟩ ∧ w'.cell? ⟨g, k, none⟩ = some (.int .i64 x)) := fun w' hk k x hx => by
    rcases hrow.2 with ⟨hv, h0⟩ | ⟨g, cap', cur, hv, _, hg, _⟩
    · have := (List.getElem?_eq_some_iff.1 hx).1; omega
    · simp only [Value.slice.injEq] at hv
      obtain ⟨rfl, _, _⟩ := hv
      refine ⟨g, rfl, ?_⟩
      have c1 := hrow.cells (g := g) rfl k _ (IV_get hx)
      rw [WideShapes.add_plain, Nat.zero_add] at c1
      have hb := hk.block g (Array.getElem?_eq_some_iff.1 hg).1 (hfar g rfl)
      unfold World.cell? at c1 ⊢
      rw [hb]; exact c1
  have HBC : Hid (∀ w' P' S' C', CAct w w' P P' C S' C' → w'.cell? ⟨P.bc, 0, none⟩ = some (.pointer (some ⟨P.bd, 0, none⟩))) := fun w' P' S' C' ha => by
    have := ha.rc.c 0
    rw [ha.bc] at this
    rw [this, ← ha.bd]; rfl
  have H0 : Hid (∃ P', CAct w w P P' C S C) := ⟨P, CAct.refl h⟩
  have HD0 : Hid (Dirt ks C) := hd
  have HF0 : Hid (K.FsOk S.fs) := hf
  have HQ0 : Hid (S.q.length + dirtyN C.L < 1048576) := hq
  clear h hrow hfar hd hf hn hq
  go_enter Tryz.func36, Tryz.ntmps36
  go_wp2
  go_loopw [10] (fun i wr => ∃ (k : Nat) (S1 : K.Dk) (C1 : Ch), k ≤ n ∧ i = .int .i64 k ∧ Hid ((∃ P1, CAct w wr P P1 C S1 C1) ∧ Dirt (ks.drop k) C1 ∧ K.FsOk S1.fs ∧ S1.q.length + dirtyN C1.L < 1048576 ∧ backs ks S C = backs (ks.drop k) S1 C1)) (fun i _ => n - (intOf i).toNat)
  case atStart => exact ⟨0, S, C, Nat.zero_le _, rfl, H0.out, HD0.out, HF0.out, HQ0.out, rfl⟩
  case round =>
    obtain ⟨k, S1, C1, hk, rfl, HI⟩ := hrel
    obtain ⟨⟨P1, ha⟩, hd, hf, hq, hbk⟩ := HI.out
    by_cases hlt : k < n
    · have hkz : (k : Int) < (n : Int) := by omega
      obtain ⟨x, hx⟩ : ∃ x, ks[k]? = some x := ⟨_, List.getElem?_eq_getElem (by have := HN.out; omega)⟩
      obtain ⟨g, rfl, c1⟩ := HROW.out wr ha.kp k x hx
      have hdr : ks.drop k = x :: ks.drop (k + 1) := by
        have hk' : k < ks.length := by have := HN.out; omega
        rw [List.drop_eq_getElem_cons hk']
        congr 1
        rw [List.getElem?_eq_getElem hk'] at hx
        simpa using hx
      rw [hdr] at hd hbk
      obtain ⟨l, hl, hls, _⟩ := hd.has x (by simp)
      have hwb := wb_c ha.rc hf (by omega) ⟨l, hl, hls⟩
      rw [ha.bc] at hwb
      have HWB : Hid (Calls Tryz.prog 43 #[.pointer (some ⟨P.bc, 0, none⟩), .int .i64 x] wr fun r w' => r = .returned (.int .i64 (wbE S1 C1 x)) ∧ ∃ P', CAct w w' P P' C (wbS S1 C1 x) (wbC S1 C1 x)) := by
        refine hwb.mono ?_
        rintro r w' ⟨rfl, P', ha'⟩
        exact ⟨rfl, P', ha.trans ha'⟩
      rw [backs_cons] at hbk
      by_cases he : wbE S1 C1 x = 0
      · have hdn := hd.next ha.rc he
        rw [if_pos he] at hbk
        have HX : Hid (Dirt (ks.drop (k + 1)) (wbC S1 C1 x) ∧ K.FsOk (wbS S1 C1 x).fs ∧ (wbS S1 C1 x).q.length + dirtyN (wbC S1 C1 x).L < 1048576 ∧ backs ks S C = backs (ks.drop (k + 1)) (wbS S1 C1 x) (wbC S1 C1 x)) := ⟨hdn.1, wbS_ok hf, by have := hdn.2; omega, hbk⟩
        simp only [he] at HWB
        clear hd hf hq hbk hdn ha hl hls hwb HI hx hdr
        go_wp2_with (go_at_call 43; refine HWB.out.mono ?_; rintro r w2 ⟨rfl, ha2⟩)
        go_roundw
        case rel => exact ⟨k + 1, _, _, by omega, by go_num, ha2, HX.out⟩
        case measure => simp [intOf]; omega
      · rw [if_neg he] at hbk
        have h33 : wbE S1 C1 x = 33 := by
          unfold wbE at he ⊢
          split
          · split
            · rename_i h1 h2; simp [h1, h2] at he
            · rfl
          · rename_i h1; simp [h1] at he
        have HX : Hid (settleR ks S C = (33, wbS S1 C1 x, wbC S1 C1 x)) := by show _ = _; unfold settleR; rw [hbk, if_neg (by simp)]
        simp only [h33] at HWB
        clear hd hf hq hbk ha hl hls hwb HI hx hdr
        go_wp2_with (go_at_call 43; refine HWB.out.mono ?_; rintro r w2 ⟨rfl, ha2⟩)
        go_ret
        rw [HX.out]
        exact ⟨rfl, ha2⟩
    · have hkz : ¬ (k : Int) < (n : Int) := by omega
      have hdr : ks.drop k = [] := List.drop_of_length_le (by have := HN.out; omega)
      rw [hdr] at hbk
      have c0 := HBC.out wr P1 S1 C1 ha
      have hba := K.barrier_gen ha.rc.rk hf (by omega)
      rw [ha.bd] at hba
      have HBA : Hid (Calls Tryz.prog 60 #[.pointer (some ⟨P.bd, 0, none⟩)] wr fun r w' => r = .returned (.int .i64 (K.baE S1)) ∧ ∃ P', CAct w w' P P' C (K.baS S1) C1) := by
        refine hba.mono ?_
        rintro r w' ⟨rfl, ml', qv', fv1, hda⟩
        rw [← ha.bd] at hda
        exact ⟨rfl, _, ha.trans (ha.rc.disk (baS_n S1) hda)⟩
      have HX : Hid (settleR ks S C = ((if K.baE S1 = 0 then 0 else 33), K.baS S1, C1)) := by show _ = _; unfold settleR; rw [hbk]; rfl
      clear hd hf hq hbk ha hba HI hdr
      rcases baE_two S1 with he | he
      · simp only [he, if_true] at HX HBA
        go_wp2_with (go_at_call 60; refine HBA.out.mono ?_; rintro r w2 ⟨rfl, ha2⟩)
        go_ret
        rw [HX.out]
        exact ⟨rfl, ha2⟩
      · simp only [he, show ((33 : Int) = 0) = False by simp, if_false] at HX HBA
        go_wp2_with (go_at_call 60; refine HBA.out.mono ?_; rintro r w2 ⟨rfl, ha2⟩)
        go_ret
        rw [HX.out]
        exact ⟨rfl, ha2⟩
end Go.Proofs.YtbamjfnjenmdaaaGreat.C
