import Derived.Test.YtbamjfnjenmdaaaGreatzLOc
import Derived.Test.YtbamjfnjenmdaaaGreatG15
import Derived.Test.YtbamjfnjenmdaaaGreatzLHb
import Derived.Test.YtbamjfnjenmdaaaGreatG17
import Derived.WalkKit
namespace Go.Proofs.YtbamjfnjenmdaaaGreat.K
open Go.RowKit Go.Maps Go.Proofs.YtbamjfnjenmdaaaGreat Go.MuLone
attribute [local go_sem] Oper.semAt_some
set_option linter.unusedVariables false
set_option linter.unusedSimpArgs false
set_option maxRecDepth 100000

def waitsI (q : List Pu) (s : Int) : Bool := if 0 ≤ s then (lastQ s.toNat q).isSome else false
/-- is there such a sector? -/
def inD (n : Nat) (s : Int) : Bool := decide (0 ≤ s ∧ s < n)
/-- Read: the error, the bytes, the disk -/
def rdE (S : Dk) (s : Int) : Int := if inD S.n s = true then (if hitF S.fs 1 s = true then 33 else 0) else 31
def rdL (S : Dk) (s : Int) : Bl := if inD S.n s = true then (if hitF S.fs 1 s = true then [] else look S s.toNat) else []
def rdS (S : Dk) (s : Int) : Dk := if inD S.n s = true then (if hitF S.fs 1 s = true then failS S 1 s else readS (failS S 1 s)) else S
theorem read_gen {w : World} {b ms ml : Nat} {qv fv : Value} {S : Dk} (h : RK w 0 b ms ml qv fv S) (hf : FsOk S.fs) (s : Int) :
    Calls Tryz.prog 32 #[.pointer (some ⟨b, 0, none⟩), .int .i64 s] w fun r w' => ∃ v fv1, r = .returned (.tuple #[v, .int .i64 (rdE S s)]) ∧ w'.ownsRow w.heap.size 5 1 v (rdL S s).length ((rdL S s).map bv) ∧ DAct w w' 0 b ms ml ms ml qv fv qv fv1 (rdS S s) := by
  unfold rdE rdL rdS
  by_cases hr : 0 ≤ s ∧ s < S.n
  · have hi : inD S.n s = true := decide_eq_true hr
    rw [if_pos hi, if_pos hi, if_pos hi]
    obtain ⟨t, rfl⟩ : ∃ t : Nat, s = t := ⟨s.toNat, by omega⟩
    have ht : t < S.n := by omega
    by_cases hh : hitF S.fs 1 t = true
    · rw [if_pos hh, if_pos hh, if_pos hh]
      refine (read_hit h hf ht hh).mono ?_
      rintro r w' ⟨fv1, rfl, ha⟩
      exact ⟨_, fv1, rfl, World.ownsRow_nil _ _ _ _, ha⟩
    · rw [if_neg hh, if_neg hh, if_neg hh]
      refine (read_hitless h hf ht (by simpa using hh)).mono ?_
      rintro r w' ⟨v, fv1, rfl, ho, ha⟩
      refine ⟨v, fv1, rfl, ?_, ha⟩
      rw [Int.toNat_natCast, (look_ok h ht).len]
      exact ho
  · have hi : ¬ inD S.n s = true := by unfold inD; simpa using hr
    rw [if_neg hi, if_neg hi, if_neg hi]
    refine (read_out h hr).mono ?_
    rintro r w' ⟨rfl, ha⟩
    exact ⟨_, fv, rfl, World.ownsRow_nil _ _ _ _, ha⟩
/-- Write -/
def wrE (S : Dk) (s : Int) (l : List Nat) : Int := if inD S.n s = true then (if l.length = 512 then (if hitF S.fs 2 s = true then 33 else 0) else 32) else 31
def wrS (S : Dk) (s : Int) (l : List Nat) : Dk := if inD S.n s = true then (if l.length = 512 then (if hitF S.fs 2 s = true then (if landF S.fs 2 s = true then pushS (failS S 2 s) s.toNat l else failS S 2 s) else wrote (failS S 2 s) s.toNat l) else S) else S
theorem write_gen {w : World} {b ms ml : Nat} {qv fv : Value} {S : Dk} (h : RK w 0 b ms ml qv fv S) (hf : FsOk S.fs) (hql : S.q.length < 1048576) (s : Int) {l : List Nat} (hlt : ∀ x ∈ l, x < 256) {m : Nat} (hm : l.length = m) (hm1 : m ≤ 140737488351232) {sb so cap : Nat} (hsrc : ∀ j v, (l.map bv)[j]? = some v → w.cell? ⟨sb, so + j, none⟩ = some v) (hsb : sb ∉ fp b ms ml qv fv) :
    Calls Tryz.prog 64 #[.pointer (some ⟨b, 0, none⟩), .int .i64 s, .slice (some ⟨sb, so, none⟩) m cap] w fun r w' => r = .returned (.int .i64 (wrE S s l)) ∧ ∃ qv' fv1, DAct w w' 0 b ms ml ms ml qv fv qv' fv1 (wrS S s l) := by
  unfold wrE wrS
  by_cases hr : 0 ≤ s ∧ s < S.n
  · have hi : inD S.n s = true := decide_eq_true hr
    rw [if_pos hi, if_pos hi]
    obtain ⟨t, rfl⟩ : ∃ t : Nat, s = t := ⟨s.toNat, by omega⟩
    have ht : t < S.n := by omega
    by_cases hl : l.length = 512
    · rw [if_pos hl, if_pos hl]
      have hok : OkB l := ⟨hl, hlt⟩
      obtain rfl : m = 512 := by omega
      rw [Int.toNat_natCast]
      by_cases hh : hitF S.fs 2 t = true
      · rw [if_pos hh, if_pos hh]
        by_cases hd : landF S.fs 2 t = true
        · rw [if_pos hd]
          refine (write_land h hf ht hh hd hok hql hsrc hsb).mono ?_
          rintro r w' ⟨qv', fv1, rfl, ha⟩
          exact ⟨rfl, qv', fv1, ha⟩
        · rw [if_neg hd]
          refine (write_lost h hf ht hh (by simpa using hd) _ _).mono ?_
          rintro r w' ⟨fv1, rfl, ha⟩
          exact ⟨rfl, qv, fv1, ha⟩
      · rw [if_neg hh, if_neg hh]
        refine (write_hitless h hf ht (by simpa using hh) hok hql hsrc hsb).mono ?_
        rintro r w' ⟨qv', fv1, rfl, ha⟩
        exact ⟨rfl, qv', fv1, ha⟩
    · rw [if_neg hl, if_neg hl]
      refine (write_len h ht (by omega) hm1 _ _).mono ?_
      rintro r w' ⟨rfl, ha⟩
      exact ⟨rfl, qv, fv, ha⟩
  · have hi : ¬ inD S.n s = true := by unfold inD; simpa using hr
    rw [if_neg hi, if_neg hi]
    refine (write_out h hr _ _ _).mono ?_
    rintro r w' ⟨rfl, ha⟩
    exact ⟨rfl, qv, fv, ha⟩
/-- Barrier -/
def baE (S : Dk) : Int := if hitF S.fs 3 (-1) = true then 33 else 0
def baS (S : Dk) : Dk := if hitF S.fs 3 (-1) = true then failS S 3 (-1) else barred (failS S 3 (-1))
theorem barrier_gen {w : World} {b ms ml : Nat} {qv fv : Value} {S : Dk} (h : RK w 0 b ms ml qv fv S) (hf : FsOk S.fs) (hql : S.q.length ≤ 1048576) :
    Calls Tryz.prog 60 #[.pointer (some ⟨b, 0, none⟩)] w fun r w' => r = .returned (.int .i64 (baE S)) ∧ ∃ ml' qv' fv1, DAct w w' 0 b ms ml ms ml' qv fv qv' fv1 (baS S) := by
  unfold baE baS
  by_cases hh : hitF S.fs 3 (-1) = true
  · rw [if_pos hh, if_pos hh]
    refine (barrier_hit h hf hh).mono ?_
    rintro r w' ⟨fv1, rfl, ha⟩
    exact ⟨rfl, ml, qv, fv1, ha⟩
  · rw [if_neg hh, if_neg hh]
    refine (barrier_hitless h hf (by simpa using hh) hql).mono ?_
    rintro r w' ⟨ml', fv1, rfl, ha⟩
    exact ⟨rfl, ml', _, fv1, ha⟩
/-- Fault -/
def faOk (S : Dk) (f : Flt) : Bool := may S.n f && decide (S.fs.length < 64)
def faE (S : Dk) (f : Flt) : Int := if faOk S f = true then 0 else 34
def faS (S : Dk) (f : Flt) : Dk := if faOk S f = true then armS S f else S
theorem fault_gen {w : World} {b ms ml : Nat} {qv fv : Value} {S : Dk} (h : RK w 0 b ms ml qv fv S) (hf : FsOk S.fs) (f : Flt) :
    Calls Tryz.prog 16 #[.pointer (some ⟨b, 0, none⟩), .agg #[.int .i64 f.kind, .int .i64 f.sector, .int .i64 f.after, .int .i64 f.times, .bool f.land]] w fun r w' => r = .returned (.int .i64 (faE S f)) ∧ ∃ fv1, DAct w w' 0 b ms ml ms ml qv fv qv fv1 (faS S f) := by
  unfold faE faS
  by_cases hm : may S.n f = true
  · by_cases hl : S.fs.length < 64
    · have hi : faOk S f = true := by simp [faOk, hm, hl]
      rw [if_pos hi, if_pos hi]
      exact fault_any h hf _ _ _ _ _ hm hl
    · have hi : ¬ faOk S f = true := by simp [faOk, hl]
      rw [if_neg hi, if_neg hi]
      refine (fault_bad h hf _ _ _ _ _ (.inr (by omega))).mono ?_
      rintro r w' ⟨rfl, ha⟩
      exact ⟨rfl, fv, ha⟩
  · have hi : ¬ faOk S f = true := by simp [faOk, hm]
    rw [if_neg hi, if_neg hi]
    refine (fault_bad h hf _ _ _ _ _ (.inl (by simpa using hm))).mono ?_
    rintro r w' ⟨rfl, ha⟩
    exact ⟨rfl, fv, ha⟩
/-- an Int that an int holds -/
abbrev I64 (z : Int) : Prop := -9223372036854775808 ≤ z ∧ z ≤ 9223372036854775807
theorem rdS_ok {S : Dk} (h : FsOk S.fs) (s : Int) : FsOk (rdS S s).fs := by
  unfold rdS
  split
  · split
    · exact failS_ok h _ _
    · exact failS_ok h _ _
  · exact h
theorem wrS_ok {S : Dk} (h : FsOk S.fs) (s : Int) (l : List Nat) : FsOk (wrS S s l).fs := by
  unfold wrS
  split
  · split
    · split
      · split
        · exact failS_ok h _ _
        · exact failS_ok h _ _
      · exact failS_ok h _ _
    · exact h
  · exact h
theorem baS_ok {S : Dk} (h : FsOk S.fs) : FsOk (baS S).fs := by
  unfold baS
  split
  · exact failS_ok h _ _
  · exact failS_ok h _ _
theorem faS_ok {S : Dk} (h : FsOk S.fs) {f : Flt} (ha : I64 f.after) (ht : I64 f.times) : FsOk (faS S f).fs := by
  unfold faS
  split
  · rename_i hi
    simp only [faOk, may, Bool.and_eq_true, decide_eq_true_eq] at hi
    refine ⟨fun x hx => ?_, ?_⟩
    · simp only [armS, List.mem_append, List.mem_singleton] at hx
      rcases hx with hx | rfl
      · exact h.ok x hx
      · exact ⟨hi.1.1.2, ha.2, hi.1.2, ht.2⟩
    · simp [armS]; omega
  · exact h
theorem rdS_q (S : Dk) (s : Int) : (rdS S s).q = S.q := by
  unfold rdS
  split
  · split
    · exact failS_q _ _ _
    · exact failS_q _ _ _
  · rfl
theorem wrS_q (S : Dk) (s : Int) (l : List Nat) : (wrS S s l).q.length ≤ S.q.length + 1 := by
  unfold wrS
  split
  · split
    · split
      · split
        · simp [pushS, failS_q]
        · simp [failS_q]
      · simp [wrote, failS_q]
    · omega
  · omega
theorem baS_q (S : Dk) : (baS S).q.length ≤ S.q.length := by
  unfold baS
  split
  · simp [failS_q]
  · simp [barred, settled]
theorem faS_q (S : Dk) (f : Flt) : (faS S f).q = S.q := by
  unfold faS
  split <;> rfl
end Go.Proofs.YtbamjfnjenmdaaaGreat.K

namespace Go.Proofs.YtbamjfnjenmdaaaGreat
set_option linter.unusedVariables false

/-- each is followed by the next -/
def Links (R : Nat → Nat → Prop) : List Nat → Prop
  | a :: b :: r => R a b ∧ Links R (b :: r)
  | _ => True
theorem Links.app {R : Nat → Nat → Prop} : ∀ (A : List Nat) (x : Nat) (C : List Nat), Links R (A ++ x :: C) ↔ Links R (A ++ [x]) ∧ Links R (x :: C)
  | [], x, C => by simp [Links]
  | [a], x, C => by simp [Links]
  | a :: b :: A, x, C => by
    have := Links.app (R := R) (b :: A) x C
    simp only [List.cons_append] at this ⊢
    simp only [Links, this, and_assoc]
theorem Links.mono {R R' : Nat → Nat → Prop} : ∀ (l : List Nat), Links R l → (∀ a ∈ l.dropLast, ∀ b ∈ l.tail, R a b → R' a b) → Links R' l
  | [], _, _ => trivial
  | [_], _, _ => trivial
  | a :: b :: r, h, k => by
    refine ⟨k a (by simp) b (by simp) h.1, Links.mono (b :: r) h.2 fun x hx y hy => k x ?_ y ?_⟩
    · rw [List.dropLast_cons_of_ne_nil (by simp)]; exact List.mem_cons_of_mem _ hx
    · exact List.mem_cons_of_mem _ hy
theorem Links.at {R : Nat → Nat → Prop} : ∀ (l : List Nat), Links R l → ∀ (i a b : Nat), l[i]? = some a → l[i + 1]? = some b → R a b
  | [], _, i, a, b, h, _ => by simp at h
  | [_], _, i, a, b, _, h => by simp at h
  | x :: y :: r, h, 0, a, b, ha, hb => by simp at ha hb; subst ha hb; exact h.1
  | x :: y :: r, h, i + 1, a, b, ha, hb => Links.at (y :: r) h.2 i a b (by simpa using ha) (by simpa using hb)

def upd (f : Nat → Nat) (a b : Nat) : Nat → Nat := fun x => if x = a then b else f x
theorem upd_same (f : Nat → Nat) (a b : Nat) : upd f a b a = b := by simp [upd]
theorem upd_other {f : Nat → Nat} {a b x : Nat} (h : x ≠ a) : upd f a b x = f x := by simp [upd, h]
abbrev LK (nx pv : Nat → Nat) (a b : Nat) : Prop := nx a = b ∧ pv b = a
/-- a ring with a gap -/
structure RingL (nx pv : Nat → Nat) (g : Nat) (bs : List Nat) : Prop where
  nd : (g :: bs).Nodup
  lk : Links (LK nx pv) (g :: bs ++ [g])

theorem snoc_form : ∀ (g : Nat) (bs : List Nat), ∃ A x, g :: bs = A ++ [x]
  | g, [] => ⟨[], g, rfl⟩
  | g, b :: bs => by
    obtain ⟨A, x, h⟩ := snoc_form b bs
    exact ⟨g :: A, x, by rw [h]; rfl⟩
theorem cons_form (bs : List Nat) (g : Nat) : ∃ y C, bs ++ [g] = y :: C := by
  cases bs with
  | nil => exact ⟨g, [], rfl⟩
  | cons b r => exact ⟨b, r ++ [g], rfl⟩

theorem RingL.nil (g : Nat) (nx pv : Nat → Nat) (h1 : nx g = g) (h2 : pv g = g) : RingL nx pv g [] := ⟨by simp, ⟨h1, h2⟩, trivial⟩
theorem RingL.pvg {nx pv : Nat → Nat} {g : Nat} {bs : List Nat} (h : RingL nx pv g bs) : pv g ∈ g :: bs := by
  obtain ⟨A, x, e⟩ := snoc_form g bs
  have l := h.lk
  rw [e, List.append_assoc] at l
  have l2 := ((Links.app A x [g]).1 l).2
  rw [l2.1.2, e]; simp
theorem RingL.enter {nx pv : Nat → Nat} {g p : Nat} {bs : List Nat} (h : RingL nx pv g bs) (hp : p ∉ g :: bs) :
    RingL (upd (upd nx p g) (pv g) p) (upd (upd pv p (pv g)) g p) g (bs ++ [p]) := by
  obtain ⟨A, x, e⟩ := snoc_form g bs
  have l := h.lk
  have nd := h.nd
  rw [e, List.append_assoc] at l
  obtain ⟨l1, l2⟩ := (Links.app A x [g]).1 l
  have hx : pv g = x := l2.1.2
  rw [hx]
  have pg : p ≠ g := fun e => hp (by simp [e])
  have px : p ≠ x := fun e' => hp (by rw [e]; simp [e'])
  refine ⟨?_, ?_⟩
  · rw [← List.cons_append, List.nodup_append]
    exact ⟨nd, by simp, fun a ha b hb => by simp at hb; subst hb; rintro rfl; exact hp ha⟩
  · have e2 : g :: (bs ++ [p]) ++ [g] = A ++ x :: [p, g] := by rw [← List.cons_append, e]; simp
    rw [e2]
    refine (Links.app A x [p, g]).2 ⟨Links.mono _ l1 ?_, ⟨?_, ?_⟩, ⟨?_, ?_⟩, trivial⟩
    · intro a ha b hb hab
      have ha' : a ∈ A := by simpa using ha
      rw [← e] at hb
      have hb' : b ∈ bs := by simpa using hb
      have nA := nd
      rw [e, List.nodup_append] at nA
      have ax : a ≠ x := nA.2.2 a ha' x (by simp)
      have ap : a ≠ p := fun e' => hp (by rw [e, ← e']; simp [ha'])
      have bg : b ≠ g := fun e' => (List.nodup_cons.1 nd).1 (e' ▸ hb')
      have bp : b ≠ p := fun e' => hp (by rw [← e']; simp [hb'])
      exact ⟨by rw [upd_other ax, upd_other ap]; exact hab.1, by rw [upd_other bg, upd_other bp]; exact hab.2⟩
    · rw [upd_same]
    · rw [upd_other pg, upd_same]
    · rw [upd_other px, upd_same]
    · rw [upd_same]
theorem RingL.mid {nx pv : Nat → Nat} {g p : Nat} {b1 b2 : List Nat} (h : RingL nx pv g (b1 ++ p :: b2)) : pv p ∈ g :: b1 ∧ nx p ∈ b2 ++ [g] := by
  obtain ⟨A, x, e⟩ := snoc_form g b1
  obtain ⟨y, C, f⟩ := cons_form b2 g
  have l := h.lk
  have e2 : g :: (b1 ++ p :: b2) ++ [g] = A ++ x :: p :: y :: C := by
    rw [← List.cons_append, e, ← f]; simp
  rw [e2] at l
  obtain ⟨l1, l2⟩ := (Links.app A x _).1 l
  exact ⟨by rw [l2.1.2, e]; simp, by rw [l2.2.1.1, f]; simp⟩
theorem RingL.leave {nx pv : Nat → Nat} {g p : Nat} {b1 b2 : List Nat} (h : RingL nx pv g (b1 ++ p :: b2)) :
    RingL (upd nx (pv p) (nx p)) (upd pv (nx p) (pv p)) g (b1 ++ b2) := by
  obtain ⟨A, x, e⟩ := snoc_form g b1
  obtain ⟨y, C, f⟩ := cons_form b2 g
  have l := h.lk
  have nd := h.nd
  have e2 : g :: (b1 ++ p :: b2) ++ [g] = A ++ x :: p :: y :: C := by
    rw [← List.cons_append, e, ← f]; simp
  rw [e2] at l
  obtain ⟨l1, l2⟩ := (Links.app A x _).1 l
  have hx : pv p = x := l2.1.2
  have hy : nx p = y := l2.2.1.1
  rw [hx, hy]
  simp only [List.nodup_cons, List.mem_append, List.mem_cons, not_or, List.nodup_append] at nd
  obtain ⟨⟨g1, g2, g3⟩, n1, ⟨n2, n3⟩, n4⟩ := nd
  have xin : x ∈ g :: b1 := by rw [e]; simp
  have yin : y ∈ b2 ++ [g] := by rw [f]; simp
  refine ⟨?_, ?_⟩
  · simp only [List.nodup_cons, List.mem_append, not_or, List.nodup_append]
    exact ⟨⟨g1, g3⟩, n1, n3, fun a ha b hb => n4 a ha b (.inr hb)⟩
  · have e3 : g :: (b1 ++ b2) ++ [g] = A ++ x :: y :: C := by
      rw [← List.cons_append, e, ← f]; simp
    rw [e3]
    have nA : (A ++ [x]).Nodup := by rw [← e]; exact List.nodup_cons.2 ⟨g1, n1⟩
    have nC : (y :: C).Nodup := by
      rw [← f, List.nodup_append]
      exact ⟨n3, by simp, fun a ha b hb => by simp at hb; subst hb; rintro rfl; exact g3 ha⟩
    refine (Links.app A x _).2 ⟨Links.mono _ l1 ?_, ⟨?_, ?_⟩, Links.mono _ l2.2.2 ?_⟩
    · intro a ha b hb hab
      have ha' : a ∈ A := by simpa using ha
      rw [← e] at hb
      have hb' : b ∈ b1 := by simpa using hb
      have ax : a ≠ x := (List.nodup_append.1 nA).2.2 a ha' x (by simp)
      have bY : b ≠ y := by
        rintro rfl
        rcases List.mem_append.1 yin with h | h
        · exact n4 b hb' b (.inr h) rfl
        · simp at h; subst h; exact g1 hb'
      exact ⟨by rw [upd_other ax]; exact hab.1, by rw [upd_other bY]; exact hab.2⟩
    · rw [upd_same]
    · rw [upd_same]
    · intro a ha b hb hab
      rw [← f] at ha
      have ha' : a ∈ b2 := by simpa using ha
      have hb' : b ∈ C := by simpa using hb
      have ax : a ≠ x := by
        rintro rfl
        rcases List.mem_cons.1 xin with h | h
        · subst h; exact g3 ha'
        · exact n4 a h a (.inr ha') rfl
      have bY : b ≠ y := by rintro rfl; exact (List.nodup_cons.1 nC).1 hb'
      exact ⟨by rw [upd_other ax]; exact hab.1, by rw [upd_other bY]; exact hab.2⟩
/-- going round -/
theorem RingL.first {nx pv : Nat → Nat} {g : Nat} {bs : List Nat} (h : RingL nx pv g bs) : nx g = (bs ++ [g]).headD g := by
  have := h.lk
  cases bs with
  | nil => exact this.1.1
  | cons b r => exact this.1.1
theorem RingL.next {nx pv : Nat → Nat} {g : Nat} {bs : List Nat} (h : RingL nx pv g bs) {i b c : Nat} (hb : bs[i]? = some b) (hc : (bs ++ [g])[i + 1]? = some c) : nx b = c := by
  have hi := (List.getElem?_eq_some_iff.1 hb).1
  exact (Links.at _ h.lk (i + 1) b c (by simp only [List.cons_append, List.getElem?_cons_succ]; rw [List.getElem?_append_left hi]; exact hb) (by simpa using hc)).1
end Go.Proofs.YtbamjfnjenmdaaaGreat
