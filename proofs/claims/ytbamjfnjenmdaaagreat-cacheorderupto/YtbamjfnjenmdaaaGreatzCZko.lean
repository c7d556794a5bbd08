import Derived.Test.YtbamjfnjenmdaaaGreatG42
namespace Go.Proofs.YtbamjfnjenmdaaaGreat.C
open Go.RowKit Go.Maps Go.Shelf Go.Proofs.YtbamjfnjenmdaaaGreat
attribute [local go_sem] Oper.semAt_some
set_option linter.unusedVariables false
set_option linter.unusedSimpArgs false
set_option maxRecDepth 100000

abbrev TBk : TypeId := 36
abbrev TBs : TypeId := 34
/-- what was put into the law's book: the sector, where the bytes lie, the bytes -/
abbrev Be := Int × Value × K.Bl
def getB (A : List Be) (s : Int) : K.Bl := match A with
  | [] => K.z512
  | a :: A => if a.1 = s then a.2.2 else getB A s
theorem getB_append (A B : List Be) (s : Int) (h : ∀ a ∈ A, a.1 ≠ s) : getB (A ++ B) s = getB B s := by
  induction A with
  | nil => rfl
  | cons a A ih =>
    rw [List.cons_append]
    conv => lhs; unfold getB
    rw [if_neg (h a (by simp))]
    exact ih fun x hx => h x (by simp [hx])
theorem getB_snoc (A : List Be) (x : Be) (t : Int) (h : x.1 ≠ t) : getB (A ++ [x]) t = getB A t := by
  induction A with
  | nil => simp [getB, h]
  | cons a A ih =>
    rw [List.cons_append]
    unfold getB
    rw [ih]
theorem getB_at {A : List Be} {k : Nat} {a : Be} {s : Int} (h : A[k]? = some a) (hs : a.1 = s) (hno : ∀ x ∈ A.take k, x.1 ≠ s) : getB A s = a.2.2 := by
  have e : A = A.take k ++ a :: A.drop (k + 1) := by
    have hk := (List.getElem?_eq_some_iff.1 h).1
    have h1 := (List.getElem?_eq_some_iff.1 h).2
    rw [← h1, List.getElem_cons_drop, List.take_append_drop]
  rw [e, getB_append _ _ _ hno]
  unfold getB
  rw [if_pos hs]
theorem getB_set {A : List Be} {k : Nat} {a : Be} {s : Int} (h : A[k]? = some a) (hs : a.1 = s) (hno : ∀ x ∈ A.take k, x.1 ≠ s) (v : Value) (bs : K.Bl) (t : Int) : getB (A.set k (s, v, bs)) t = if t = s then bs else getB A t := by
  induction A generalizing k with
  | nil => simp at h
  | cons x A ih =>
    cases k with
    | zero =>
      simp at h
      subst h
      rw [List.set_cons_zero]
      unfold getB
      by_cases e : t = s
      · rw [if_pos e, if_pos e.symm]
      · rw [if_neg e, if_neg (fun h => e h.symm), if_neg (by rw [hs]; exact fun h => e h.symm)]
    | succ k =>
      rw [List.set_cons_succ]
      have hx : x.1 ≠ s := hno x (by simp)
      have := ih (k := k) (by simpa using h) (fun y hy => hno y (by simp [hy]))
      unfold getB
      rw [this]
      by_cases e : t = s
      · rw [if_pos e, if_pos e, if_neg (by rw [e]; exact hx)]
      · rw [if_neg e, if_neg e]
/-- the law's book in memory -/
structure Bk (w : World) (kb : Nat) (av bw : Value) (A : List Be) : Prop where
  blk : w.heap[kb]? = some (.cells #[av, bw] TBk (0, 0))
  ra : w.ownsRow 0 TIn 1 av A.length (IV (A.map (·.1)))
  rb : w.ownsRow 0 TBy 1 bw A.length (A.map (·.2.1))
  dat : ∀ a ∈ A, w.ownsRow 0 5 1 a.2.1 512 (a.2.2.map bv)
def bfp0 (kb : Nat) (av bw : Value) : List Nat := kb :: (av.ownBlock.toList ++ bw.ownBlock.toList)
def bfp (kb : Nat) (av bw : Value) (A : List Be) : List Nat := kb :: (av.ownBlock.toList ++ (bw.ownBlock.toList ++ A.flatMap fun a => a.2.1.ownBlock.toList))
theorem bfp_sub {kb : Nat} {av bw : Value} {A : List Be} {i : Nat} (h : i ∈ bfp0 kb av bw) : i ∈ bfp kb av bw A := by
  simp only [bfp0, bfp, List.mem_cons, List.mem_append] at h ⊢
  rcases h with h | h | h
  · exact .inl h
  · exact .inr (.inl h)
  · exact .inr (.inr (.inl h))
section
variable {w w' : World} {kb : Nat} {av bw : Value} {A : List Be}
theorem Bk.same (h : Bk w kb av bw A) (hs : ∀ i ∈ bfp kb av bw A, w'.heap[i]? = w.heap[i]?) : Bk w' kb av bw A := by
  refine ⟨(hs kb (by simp [bfp])).trans h.blk, K.ownsRow_block h.ra fun g hg => hs g (by simp [bfp, hg]), K.ownsRow_block h.rb fun g hg => hs g (by simp [bfp, hg]), fun a ha => K.ownsRow_block (h.dat a ha) fun g hg => hs g ?_⟩
  simp only [bfp, List.mem_cons, List.mem_append, List.mem_flatMap]
  exact .inr (.inr (.inr ⟨a, ha, by simp [hg]⟩))
theorem Bk.lt (h : Bk w kb av bw A) : ∀ i ∈ bfp kb av bw A, i < w.heap.size := by
  intro i hi
  simp only [bfp, List.mem_cons, List.mem_append, List.mem_flatMap, Option.mem_toList] at hi
  rcases hi with rfl | hi | hi | ⟨a, ha, hi⟩
  · exact (Array.getElem?_eq_some_iff.1 h.blk).1
  · exact (K.row_lt h.ra i hi).1
  · exact (K.row_lt h.rb i hi).1
  · exact (K.row_lt (h.dat a ha) i hi).1
theorem Bk.later (h : Bk w kb av bw A) (hb : Below w.heap.size w w') : Bk w' kb av bw A := h.same fun i hi => hb.block i (h.lt i hi)
theorem Bk.kept {F : List Nat} (h : Bk w kb av bw A) (hk : K.Kp w w' F) (hd : ∀ i ∈ bfp kb av bw A, i ∉ F) : Bk w' kb av bw A := h.same fun i hi => hk.block i (h.lt i hi) (hd i hi)
theorem Bk.kinds (h : Bk w kb av bw A) : av.ownBlock ≠ some kb ∧ bw.ownBlock ≠ some kb ∧ (∀ g, av.ownBlock = some g → bw.ownBlock ≠ some g) ∧ ∀ a ∈ A, ∀ g, a.2.1.ownBlock = some g → g ≠ kb ∧ av.ownBlock ≠ some g ∧ bw.ownBlock ≠ some g := by
  have hb := h.blk
  have k1 := K.row_lt h.ra
  have k2 := K.row_lt h.rb
  refine ⟨fun e => ?_, fun e => ?_, fun g e1 e2 => ?_, fun a ha g e => ⟨fun e' => ?_, fun e' => ?_, fun e' => ?_⟩⟩
  · obtain ⟨_, cs, h1⟩ := k1 _ e; rw [hb] at h1; simp at h1; exact absurd h1.2 (by decide)
  · obtain ⟨_, cs, h1⟩ := k2 _ e; rw [hb] at h1; simp at h1; exact absurd h1.2 (by decide)
  · obtain ⟨_, cs, h1⟩ := k1 _ e1; obtain ⟨_, cs', h2⟩ := k2 _ e2; rw [h1] at h2; simp at h2; exact absurd h2.2 (by decide)
  · subst e'; obtain ⟨_, cs, h1⟩ := K.row_lt (h.dat a ha) _ e; rw [hb] at h1; simp at h1; exact absurd h1.2 (by decide)
  · obtain ⟨_, cs, h1⟩ := K.row_lt (h.dat a ha) _ e; obtain ⟨_, cs', h2⟩ := k1 _ e'; rw [h1] at h2; simp at h2; exact absurd h2.2 (by decide)
  · obtain ⟨_, cs, h1⟩ := K.row_lt (h.dat a ha) _ e; obtain ⟨_, cs', h2⟩ := k2 _ e'; rw [h1] at h2; simp at h2; exact absurd h2.2 (by decide)
theorem by_form {w : World} {B n : Nat} {v : Value} {xs : List Value} (h : w.ownsRow B TBy 1 v n xs) : ∃ ao cap, v = .slice ao n cap := by
  rcases h.2 with ⟨hv, hn⟩ | ⟨g, cap, cur, hv, _⟩
  · exact ⟨none, 0, by rw [hv, hn]⟩
  · exact ⟨_, _, hv⟩
theorem row_at {w : World} {B T n : Nat} {v : Value} {xs : List Value} (h : w.ownsRow B T 1 v n xs) {k : Nat} {x : Value} (hx : xs[k]? = some x) : ∃ g cap, v = .slice (some ⟨g, 0, none⟩) n cap ∧ w.cell? ⟨g, k, none⟩ = some x ∧ w.frozen? ⟨g, k, none⟩ = false := by
  rcases h.2 with ⟨hv, hn⟩ | ⟨g, cap, cur, rfl, _, hg, _⟩
  · have h1 := h.1
    have h2 := (List.getElem?_eq_some_iff.1 hx).1
    omega
  · refine ⟨g, cap, rfl, ?_, K.frozen_of hg⟩
    have c1 := h.cells (g := g) rfl k _ hx
    rwa [WideShapes.add_plain, Nat.zero_add] at c1
theorem infoBy : (Tryz.prog.info? TBy).map (fun i => (i.zero, i.size, i.bytes)) = some (some (.slice none 0 0), 1, 24) := by kernel_rfl
set_option maxHeartbeats 4000000 in
theorem get_c (h : Bk w kb av bw A) (s : Int) (hl : A.length ≤ 1048576) :
    Calls Tryz.prog 8 #[.pointer (some ⟨kb, 0, none⟩), .int .i64 s] w fun r w' => ∃ v, r = .returned v ∧ w'.ownsRow 0 5 1 v 512 ((getB A s).map bv) ∧ Below w.heap.size w w' := by
  obtain ⟨ao, ac, rfl⟩ := int_form h.ra
  obtain ⟨bo, bc, rfl⟩ := by_form h.rb
  obtain ⟨n, hn⟩ : ∃ n, n = A.length := ⟨_, rfl⟩
  have c0 : w.cell? ⟨kb, 0, none⟩ = some (.slice ao n ac) := by rw [hn]; exact (K.cell_of h.blk).trans rfl
  have c1 : w.cell? ⟨kb, 1, none⟩ = some (.slice bo n bc) := by rw [hn]; exact (K.cell_of h.blk).trans rfl
  have HA : Hid (∀ k a, A[k]? = some a → (∃ g, ao = some ⟨g, 0, none⟩ ∧ w.cell? ⟨g, k, none⟩ = some (.int .i64 a.1)) ∧ (∃ g, bo = some ⟨g, 0, none⟩ ∧ w.cell? ⟨g, k, none⟩ = some a.2.1) ∧ w.ownsRow 0 5 1 a.2.1 512 (a.2.2.map bv)) := fun k a hk => by
    have h1 : (IV (A.map (·.1)))[k]? = some (.int .i64 a.1) := IV_get (by rw [List.getElem?_map, hk]; rfl)
    have h2 : (A.map (·.2.1))[k]? = some a.2.1 := by rw [List.getElem?_map, hk]; rfl
    obtain ⟨g, _, e, d, _⟩ := row_at h.ra h1
    obtain ⟨g', _, e', d', _⟩ := row_at h.rb h2
    cases e
    cases e'
    exact ⟨⟨g, rfl, d⟩, ⟨g', rfl, d'⟩, h.dat a (List.mem_of_getElem? hk)⟩
  have HN : Hid (n = A.length) := hn
  rw [← hn] at hl
  obtain ⟨Z, hZ, hmk⟩ := K.run_row w (n := 512) (by omega)
  have hmk' : (Instr.makeSlice 44 (.int .i64 512) (.int .i64 512)).run Tryz.prog w = .ok (.slice (some ⟨w.heap.size, 0, none⟩) 512 512) (w.alloc (.cells (K.z512.map bv).toArray 5)) := by
    have := K.run_image w (n := 1) (by omega)
    simpa [K.imgL] using this
  have HZ : Hid ((w.alloc (.cells (K.z512.map bv).toArray 5)).ownsRow 0 5 1 (.slice (some ⟨w.heap.size, 0, none⟩) 512 512) 512 (K.z512.map bv)) := by
    have hz : (K.z512.map bv).length = 512 := by simp [K.z512]
    exact ⟨by rw [hz], .inr ⟨w.heap.size, 512, _, rfl, Nat.zero_le _, heap_alloc_new w _, Nat.le_refl _, by decide, by simp [K.z512], by rw [Nat.mul_one, ← hz, List.toList_toArray, List.take_length]⟩⟩
  clear h hn hmk
  go_enter Tryz.func8, Tryz.ntmps8
  go_wp2
  go_loopw [5] (fun i wr => ∃ (k : Nat), k ≤ n ∧ i = .int .i64 k ∧ wr = w ∧ Hid (∀ x ∈ A.take k, x.1 ≠ s)) (fun i _ => n - (intOf i).toNat)
  case atStart => exact ⟨0, Nat.zero_le _, rfl, rfl, fun x hx => by simp at hx⟩
  case round =>
    obtain ⟨k, hk, rfl, rfl, HNO⟩ := hrel
    by_cases hlt : k < n
    · have hkz : (k : Int) < (n : Int) := by omega
      obtain ⟨a, ha⟩ : ∃ a, A[k]? = some a := ⟨_, List.getElem?_eq_getElem (by have := HN.out; omega)⟩
      obtain ⟨⟨g, rfl, d0⟩, ⟨g', rfl, d1⟩, hd⟩ := HA.out k a ha
      by_cases hs : a.1 = s
      · have hs' : decide (a.1 = s) = true := decide_eq_true hs
        have HG : Hid (getB A s = a.2.2) := getB_at ha hs HNO.out
        have HD : Hid (wr.ownsRow 0 5 1 a.2.1 512 (a.2.2.map bv)) := hd
        clear ha hd HZ hmk'
        go_wp2
        go_ret
        exact ⟨_, rfl, by rw [HG.out]; exact HD.out, Below.refl _ _⟩
      · have hs' : decide (a.1 = s) = false := decide_eq_false hs
        have HX : Hid (∀ x ∈ A.take (k + 1), x.1 ≠ s) := fun x hx => by
          rw [List.take_add_one, ha] at hx
          rcases List.mem_append.1 hx with hx | hx
          · exact HNO.out x hx
          · simp at hx; rw [hx]; exact hs
        clear ha hd HZ hmk'
        go_wp2
        go_roundw
        case rel => first | exact ⟨k + 1, by omega, by go_num, rfl, HX⟩ | exact ⟨k + 1, by omega, by go_num, trivial, HX⟩
        case measure => simp [intOf]; omega
    · have hkz : ¬ (k : Int) < (n : Int) := by omega
      have HG : Hid (getB A s = K.z512) := by
        have h1 := HNO.out
        rw [List.take_of_length_le (by have := HN.out; omega)] at h1
        have := getB_append A [] s h1
        rw [List.append_nil] at this
        rw [this]; rfl
      go_wp2
      go_ret
      exact ⟨_, rfl, by rw [HG.out]; exact HZ.out, (Below.refl _ _).alloc (Nat.le_refl _) _⟩
theorem set_same {l : List Int} {k : Nat} {x : Int} (h : l[k]? = some x) : l.set k x = l := by
  apply List.ext_getElem?
  intro i
  rw [List.getElem?_set]
  by_cases e : k = i
  · subst e; rw [if_pos rfl, if_pos (List.getElem?_eq_some_iff.1 h).1, h]
  · rw [if_neg e]
set_option maxHeartbeats 8000000 in
theorem put_c (h : Bk w kb av bw A) (s : Int) {vo : Option Addr} {vc : Nat} {bs : K.Bl} (hv : w.ownsRow 0 5 1 (.slice vo 512 vc) 512 (bs.map bv)) (hl : A.length < 1048576) :
    Calls Tryz.prog 11 #[.pointer (some ⟨kb, 0, none⟩), .int .i64 s, .slice vo 512 vc] w fun r w' => r = .returned (.tuple #[]) ∧ ∃ av' bw' A', Bk w' kb av' bw' A' ∧ (∀ t, getB A' t = if t = s then bs else getB A t) ∧ A'.length ≤ A.length + 1 ∧ K.Kp w w' (bfp0 kb av bw) ∧ ∀ i ∈ bfp kb av' bw' A', i ∈ bfp kb av bw A ∨ w.heap.size ≤ i ∨ (Value.slice vo 512 vc).ownBlock = some i := by
  obtain ⟨ia, hia, iz0, iz1, iz2⟩ := info_parts I.A.infoKey
  obtain ⟨ib, hib, jz0, jz1, jz2⟩ := info_parts infoBy
  obtain ⟨ao, ac, rfl⟩ := int_form h.ra
  obtain ⟨bo, bc, rfl⟩ := by_form h.rb
  obtain ⟨n, hn⟩ : ∃ n, n = A.length := ⟨_, rfl⟩
  rw [← hn] at h ⊢
  have c0 : w.cell? ⟨kb, 0, none⟩ = some (.slice ao n ac) := (K.cell_of h.blk).trans rfl
  have c1 : w.cell? ⟨kb, 1, none⟩ = some (.slice bo n bc) := (K.cell_of h.blk).trans rfl
  have HB : Hid (Bk w kb (.slice ao n ac) (.slice bo n bc) A) := h
  have HV : Hid (w.ownsRow 0 5 1 (.slice vo 512 vc) 512 (bs.map bv)) := hv
  have HA : Hid (∀ k a, A[k]? = some a → (∃ g, ao = some ⟨g, 0, none⟩ ∧ w.cell? ⟨g, k, none⟩ = some (.int .i64 a.1)) ∧ (∃ g, bo = some ⟨g, 0, none⟩ ∧ w.cell? ⟨g, k, none⟩ = some a.2.1 ∧ w.frozen? ⟨g, k, none⟩ = false)) := fun k a hk => by
    have h1 : (IV (A.map (·.1)))[k]? = some (.int .i64 a.1) := IV_get (by rw [List.getElem?_map, hk]; rfl)
    have h2 : (A.map (·.2.1))[k]? = some a.2.1 := by rw [List.getElem?_map, hk]; rfl
    obtain ⟨g, _, e, d, _⟩ := row_at h.ra h1
    obtain ⟨g', _, e', d', f'⟩ := row_at h.rb h2
    cases e
    cases e'
    exact ⟨⟨g, rfl, d⟩, ⟨g', rfl, d', f'⟩⟩
  have HN : Hid (n = A.length) := hn
  rw [← hn] at hl
  clear h hn hv
  go_enter Tryz.func11, Tryz.ntmps11
  go_wp2
  go_loopw [6] (fun i wr => ∃ (k : Nat), k ≤ n ∧ i = .int .i64 k ∧ wr = w ∧ Hid (∀ x ∈ A.take k, x.1 ≠ s)) (fun i _ => n - (intOf i).toNat)
  case atStart => exact ⟨0, Nat.zero_le _, rfl, rfl, fun x hx => by simp at hx⟩
  case round =>
    obtain ⟨k, hk, rfl, rfl, HNO⟩ := hrel
    by_cases hlt : k < n
    · have hkz : (k : Int) < (n : Int) := by omega
      obtain ⟨a, ha⟩ : ∃ a, A[k]? = some a := ⟨_, List.getElem?_eq_getElem (by have := HN.out; omega)⟩
      obtain ⟨⟨g, rfl, d0⟩, ⟨g', rfl, d1, f1⟩⟩ := HA.out k a ha
      by_cases hs : a.1 = s
      · have hs' : decide (a.1 = s) = true := decide_eq_true hs
        have HG : Hid (A[k]? = some a ∧ a.1 = s) := ⟨ha, hs⟩
        clear ha
        go_wp2
        refine bodyPost_ret (results_none rfl _ _ _) rfl ?_
        obtain ⟨ha, hs⟩ := HG.out
        have hb := HB.out
        obtain ⟨k1, k2, k3, k4⟩ := hb.kinds
        have hgk : g' ≠ kb := fun e => k2 (by rw [e]; rfl)
        have hgg : g ≠ g' := fun e => k3 g rfl (by rw [e]; rfl)
        refine ⟨rfl, .slice (some ⟨g, 0, none⟩) n ac, .slice (some ⟨g', 0, none⟩) n bc, A.set k (s, .slice vo 512 vc, bs), ⟨?_, ?_, ?_, ?_⟩, getB_set ha hs HNO.out _ _, by rw [List.length_set]; have := HN.out; omega, ?_, ?_⟩
        · exact (Below.heap_setCell _ _ _ _ (Ne.symm hgk)).trans hb.blk
        · rw [List.length_set, List.map_set, set_same (by rw [List.getElem?_map, ha]; simp [hs])]
          exact K.ownsRow_block hb.ra fun i hi => by cases hi; exact Below.heap_setCell _ _ _ _ hgg
        · rw [List.length_set, List.map_set]
          have := K.row_set (j := k) (.slice vo 512 vc) (by have := hb.rb; rw [← HN.out] at this; exact this) (by rw [List.length_map]; have := HN.out; omega)
          rw [← HN.out]
          exact this
        · intro x hx
          rcases List.mem_or_eq_of_mem_set hx with hx | rfl
          · exact K.ownsRow_block (hb.dat x hx) fun i hi => Below.heap_setCell _ _ _ _ (fun e => (k4 x hx i hi).2.2 (by rw [e]; rfl))
          · exact K.ownsRow_block HV.out fun i hi => Below.heap_setCell _ _ _ _ (fun e => by
              obtain ⟨_, cs, h1⟩ := K.row_lt HV.out i hi
              obtain ⟨_, cs', h2⟩ := K.row_lt hb.rb g' rfl
              rw [e, h2] at h1
              simp at h1
              exact absurd h1.2 (by decide))
        · exact (K.Kp.refl _ _).set (.inl (by simp [bfp0, Value.ownBlock])) k _
        · intro i hi
          simp only [bfp, List.mem_cons, List.mem_append, List.mem_flatMap, Option.mem_toList] at hi ⊢
          rcases hi with hi | hi | hi | ⟨x, hx, hi⟩
          · exact .inl (.inl hi)
          · exact .inl (.inr (.inl hi))
          · exact .inl (.inr (.inr (.inl hi)))
          · rcases List.mem_or_eq_of_mem_set hx with hx | rfl
            · exact .inl (.inr (.inr (.inr ⟨x, hx, hi⟩)))
            · exact .inr (.inr hi)
      · have hs' : decide (a.1 = s) = false := decide_eq_false hs
        have HX : Hid (∀ x ∈ A.take (k + 1), x.1 ≠ s) := fun x hx => by
          rw [List.take_add_one, ha] at hx
          rcases List.mem_append.1 hx with hx | hx
          · exact HNO.out x hx
          · simp at hx; rw [hx]; exact hs
        clear ha
        go_wp2
        go_roundw
        case rel => first | exact ⟨k + 1, by omega, by go_num, rfl, HX⟩ | exact ⟨k + 1, by omega, by go_num, trivial, HX⟩
        case measure => simp [intOf]; omega
    · have hkz : ¬ (k : Int) < (n : Int) := by omega
      have HNA : Hid (∀ x ∈ A, x.1 ≠ s) := by
        have h1 := HNO.out
        rw [List.take_of_length_le (by have := HN.out; omega)] at h1
        exact h1
      have HR : Hid (wr.ownsRow 0 TIn 1 (.slice ao n ac) n (IV (A.map (·.1)))) := by have := HB.out.ra; rw [← HN.out] at this; exact this
      have HRB : Hid (wr.ownsRow 0 TBy 1 (.slice bo n bc) n (A.map (·.2.1))) := by have := HB.out.rb; rw [← HN.out] at this; exact this
      have HNW : Hid (∀ (W : World) (v : Value), ∀ (j : Nat) (u : Value), [Value.slice vo 512 vc][j]? = some u → ((W.setCell ⟨kb, 0, none⟩ v).alloc (.cells #[.slice vo 512 vc] TBy)).cell? ((⟨W.heap.size, 0, none⟩ : Addr).add j) = some u) := fun W v => by
        have := World.news_of_block (heap_alloc_new (W.setCell ⟨kb, 0, none⟩ v) (.cells #[.slice vo 512 vc] TBy))
        rw [World.size_setCell] at this
        exact this
      have HKL : Hid (kb < wr.heap.size) := (Array.getElem?_eq_some_iff.1 HB.out.blk).1
      clear HA
      go_wp2_with (first
        | (at_builtin; (refine wpList_append_own_at _ rfl _ _ 33 rfl 0 TIn ia _ 1 8 Tryz.underlying33 hia iz0 iz1 iz2 rfl (by decide) (.slice ao n ac) n (IV (A.map (·.1))) rfl (HR.out.alloc _) ⟨wr.heap.size, 0, none⟩ 1 1 [.int .i64 s] rfl rfl (I.A.news1 _ _) (by simp [Value.oneCell']) (by unfold maxLen; omega) (by omega) (Nat.zero_le _) ?_; intro v1 w1 hown1 hg1 _ hat1; obtain ⟨a1, m1, hv1⟩ := int_form hown1; have hk1 : w1.heap[kb]? = some (.cells #[.slice ao n ac, .slice bo n bc] TBk (0, 0)) := (hg1.block kb (by rw [World.size_alloc]; have := HKL.out; omega) (fun e => HB.out.kinds.1 e.symm)).trans ((Below.heap_alloc _ _ _ HKL.out).trans HB.out.blk); have d0 : w1.cell? ⟨kb, 0, none⟩ = some (.slice ao n ac) := (K.cell_of hk1).trans rfl; have z0 : w1.frozen? ⟨kb, 0, none⟩ = false := K.frozen_of hk1; have d1 : (w1.setCell ⟨kb, 0, none⟩ v1).cell? ⟨kb, 1, none⟩ = some (.slice bo n bc) := (K.cell_of (K.blk_set hk1 0 v1)).trans rfl; have HK1 : Hid (w1.heap[kb]? = some (.cells #[.slice ao n ac, .slice bo n bc] TBk (0, 0))) := hk1; have HO1 : Hid (w1.ownsRow 0 TIn 1 v1 (n + 1) (IV (A.map (·.1)) ++ [.int .i64 s])) := hown1; have HG1 : Hid ((wr.alloc (.cells #[.int .i64 s] TIn)).grownBy w1 (Value.slice ao n ac).ownBlock) := hg1; have HAT1 : Hid (v1.ownBlock = (Value.slice ao n ac).ownBlock ∨ v1.ownBlock = some (wr.heap.size + 1)) := (by show _ ∨ _; simpa using hat1); have HRB1 : Hid ((w1.setCell ⟨kb, 0, none⟩ v1).ownsRow 0 TBy 1 (.slice bo n bc) n (A.map (·.2.1))) := (K.ownsRow_block HRB.out fun i hi => (Below.heap_setCell _ _ _ _ (fun e => HB.out.kinds.2.1 (by have e' : i = kb := e; rw [← e']; exact hi))).trans ((hg1.block i (by rw [World.size_alloc]; have := (K.row_lt HRB.out i hi).1; omega) (fun e => HB.out.kinds.2.2.1 i e.symm hi)).trans (Below.heap_alloc _ _ _ (K.row_lt HRB.out i hi).1))); subst hv1; clear hk1 hown1 hg1 hat1))
        | (at_builtin; (refine wpList_append_own_at _ rfl _ _ TBs rfl 0 TBy ib _ 1 24 Tryz.underlying34 hib jz0 jz1 jz2 rfl (by decide) (.slice bo n bc) n (A.map (·.2.1)) rfl (HRB1.out.alloc _) ⟨w1.heap.size, 0, none⟩ 1 1 [.slice vo 512 vc] rfl rfl (HNW.out w1 (.slice a1 (n + 1) m1)) (by simp [Value.oneCell']) (by unfold maxLen; omega) (by omega) (Nat.zero_le _) ?_; intro v2 w2 hown2 hg2 _ hat2; obtain ⟨a2, m2, hv2⟩ := by_form hown2; have HK2 : Hid (w2.heap[kb]? = some (.cells #[.slice a1 (n + 1) m1, .slice bo n bc] TBk (0, 0))) := ((hg2.block kb (by rw [World.size_alloc, World.size_setCell]; have := (Array.getElem?_eq_some_iff.1 HK1.out).1; omega) (fun e => HB.out.kinds.2.1 e.symm)).trans ((Below.heap_alloc _ _ _ (by rw [World.size_setCell]; exact (Array.getElem?_eq_some_iff.1 HK1.out).1)).trans (K.blk_set HK1.out 0 (.slice a1 (n + 1) m1)))); have d2 : w2.cell? ⟨kb, 1, none⟩ = some (.slice bo n bc) := (K.cell_of HK2.out).trans rfl; have z2 : w2.frozen? ⟨kb, 1, none⟩ = false := K.frozen_of HK2.out; have HO2 : Hid (w2.ownsRow 0 TBy 1 v2 (n + 1) (A.map (·.2.1) ++ [.slice vo 512 vc])) := hown2; have HG2 : Hid (((w1.setCell ⟨kb, 0, none⟩ (.slice a1 (n + 1) m1)).alloc (.cells #[.slice vo 512 vc] TBy)).grownBy w2 (Value.slice bo n bc).ownBlock) := hg2; have HAT2 : Hid (v2.ownBlock = (Value.slice bo n bc).ownBlock ∨ v2.ownBlock = some (w1.heap.size + 1)) := (by show _ ∨ _; simpa using hat2); subst hv2; clear hown2 hg2 hat2)))
      go_end0
      have hb := HB.out
      obtain ⟨k1, k2, k3, k4⟩ := hb.kinds
      have hs1 : wr.heap.size + 1 ≤ w1.heap.size := by have := HG1.out.size; rw [World.size_alloc] at this; exact this
      have hs2 : w1.heap.size + 1 ≤ w2.heap.size := by have := HG2.out.size; rw [World.size_alloc, World.size_setCell] at this; exact this
      have same1 : ∀ g, g < w1.heap.size → g ≠ kb → (Value.slice bo n bc).ownBlock ≠ some g → (w2.setCell ⟨kb, 1, none⟩ (.slice a2 (n + 1) m2)).heap[g]? = w1.heap[g]? := fun g hg h1 h2 => by
        rw [Below.heap_setCell _ _ _ _ h1, HG2.out.block g (by rw [World.size_alloc, World.size_setCell]; omega) (fun e => h2 e.symm), Below.heap_alloc _ _ _ (by rw [World.size_setCell]; exact hg), Below.heap_setCell _ _ _ _ h1]
      have same : ∀ g, g < wr.heap.size → g ≠ kb → (Value.slice ao n ac).ownBlock ≠ some g → (Value.slice bo n bc).ownBlock ≠ some g → (w2.setCell ⟨kb, 1, none⟩ (.slice a2 (n + 1) m2)).heap[g]? = wr.heap[g]? := fun g hg h1 h2 h3 => by
        rw [same1 g (by omega) h1 h3, HG1.out.block g (by rw [World.size_alloc]; omega) (fun e => h2 e.symm), Below.heap_alloc _ _ _ hg]
      have hkF : kb ∈ bfp0 kb (.slice ao n ac) (.slice bo n bc) := by simp [bfp0]
      refine ⟨rfl, .slice a1 (n + 1) m1, .slice a2 (n + 1) m2, A ++ [(s, .slice vo 512 vc, bs)], ⟨?_, ?_, ?_, ?_⟩, fun t => ?_, by rw [List.length_append, List.length_singleton]; have := HN.out; omega, ?_, ?_⟩
      · exact K.blk_set HK2.out 1 _
      · rw [List.length_append, List.length_singleton, ← HN.out, List.map_append, List.map_singleton, IV, List.map_append, List.map_singleton]
        refine K.ownsRow_block HO1.out fun g hg => ?_
        obtain ⟨hgl, cs, hgt⟩ := K.row_lt HO1.out g hg
        have hgk : g ≠ kb := fun e => by rw [e, HK1.out] at hgt; simp at hgt; exact absurd hgt.2 (by decide)
        refine same1 g hgl hgk (fun e => ?_)
        obtain ⟨_, cs', h2⟩ := K.row_lt HRB1.out g e
        rw [Below.heap_setCell _ _ _ _ hgk, hgt] at h2
        simp at h2
        exact absurd h2.2 (by decide)
      · rw [List.length_append, List.length_singleton, ← HN.out, List.map_append, List.map_singleton]
        refine K.ownsRow_block HO2.out fun g hg => Below.heap_setCell _ _ _ _ (fun e => ?_)
        obtain ⟨_, cs, hgt⟩ := K.row_lt HO2.out g hg
        rw [show g = kb from e, HK2.out] at hgt
        simp at hgt
        exact absurd hgt.2 (by decide)
      · intro x hx
        rcases List.mem_append.1 hx with hx | hx
        · exact K.ownsRow_block (hb.dat x hx) fun g hg => same g (K.row_lt (hb.dat x hx) g hg).1 (k4 x hx g hg).1 (k4 x hx g hg).2.1 (k4 x hx g hg).2.2
        · simp at hx
          subst hx
          refine K.ownsRow_block HV.out fun g hg => ?_
          obtain ⟨hgl, cs, hgt⟩ := K.row_lt HV.out g hg
          refine same g hgl (fun e => ?_) (fun e => ?_) (fun e => ?_)
          · rw [e, hb.blk] at hgt; simp at hgt; exact absurd hgt.2 (by decide)
          · obtain ⟨_, cs', h2⟩ := K.row_lt hb.ra g e; rw [hgt] at h2; simp at h2; exact absurd h2.2 (by decide)
          · obtain ⟨_, cs', h2⟩ := K.row_lt hb.rb g e; rw [hgt] at h2; simp at h2; exact absurd h2.2 (by decide)
      · by_cases e : t = s
        · subst e
          rw [if_pos rfl, getB_append A _ t HNA.out]
          simp [getB]
        · rw [if_neg e, getB_snoc A _ t (fun h => e h.symm)]
      · have q1 : K.Kp wr w1 (bfp0 kb (.slice ao n ac) (.slice bo n bc)) := ((K.Kp.refl wr _).grown (World.grownBy_alloc wr _ none) (fun k e => by cases e)).grown HG1.out (fun k e => .inl (by simp [bfp0, e]))
        have q2 := ((q1.set (.inl hkF) 0 (.slice a1 (n + 1) m1)).grown (World.grownBy_alloc _ (.cells #[.slice vo 512 vc] TBy) none) (fun k e => by cases e)).grown HG2.out (fun k e => .inl (by simp [bfp0, e]))
        exact q2.set (.inl hkF) 1 _
      · intro i hi
        simp only [bfp, List.mem_cons, List.mem_append, List.mem_flatMap, Option.mem_toList] at hi ⊢
        rcases hi with hi | hi | hi | ⟨x, hx, hi⟩
        · exact .inl (.inl hi)
        · rcases HAT1.out with e | e
          · rw [e] at hi; exact .inl (.inr (.inl hi))
          · rw [e] at hi; cases hi; exact .inr (.inl (by omega))
        · rcases HAT2.out with e | e
          · rw [e] at hi; exact .inl (.inr (.inr (.inl hi)))
          · rw [e] at hi; cases hi; exact .inr (.inl (by omega))
        · rcases hx with hx | hx
          · exact .inl (.inr (.inr (.inr ⟨x, hx, hi⟩)))
          · simp at hx; subst hx; exact .inr (.inr hi)
end
end Go.Proofs.YtbamjfnjenmdaaaGreat.C
