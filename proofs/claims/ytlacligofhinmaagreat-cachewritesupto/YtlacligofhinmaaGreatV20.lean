import Derived.Test.YtlacligofhinmaaGreatV17
import Derived.Test.YtlacligofhinmaaGreatV19
namespace Go.Proofs.YtlacligofhinmaaGreat.K
open Go.RowKit Go.Maps Go.Proofs.YtlacligofhinmaaGreat Go.MuLone
attribute [local go_sem] Oper.semAt_some
set_option linter.unusedVariables false
set_option linter.unusedSimpArgs false
set_option maxRecDepth 100000

def waitsI (q : List Pu) (s : Int) : Bool := if 0 ≤ s then (lastQ s.toNat q).isSome else false
/-- the last write's place -/
theorem waits_gen {w : World} {b ms ml : Nat} {qv fv : Value} {S : Dk} (h : RK w 0 b ms ml qv fv S) {s : Int} (hwf : (Lit.int .i64 s).wf = true) :
    Calls Tryz.prog 117 #[.pointer (some ⟨b, 0, none⟩), .int .i64 s] w fun r w' => r = .returned (.bool (waitsI S.q s)) ∧ DAct w w' 0 b ms ml ms ml qv fv qv fv S := by
  have hus := usable_any h
  have c0 : w.cell? ⟨b, 0, none⟩ = some (.int .i32 0) := h.c 0
  have z0 := h.fz 0
  have a1 := (DAct.refl h).put 0 (.int .i32 1) 1 S.st rfl
  have HA1 : Hid (DAct w (w.setCell ⟨b, 0, none⟩ (.int .i32 1)) 1 b ms ml ms ml qv fv qv fv S) := a1
  have c5 : (w.setCell ⟨b, 0, none⟩ (.int .i32 1)).cell? ⟨b, 5, none⟩ = some (.map (some ml)) := a1.rk.c 5
  have hk : keyOf Tryz.prog TIn (.int .i64 s) = some (kl s) := keyOf_int_mk Tryz.underlying3 hwf
  obtain ⟨Dl, hml, hlo⟩ := a1.rk.lm
  obtain ⟨v, ps, hlk, hv⟩ := hml.look_ok keyed Tryz.underlying114 (Tryz.zeroValue3 _) (plainElem_int Tryz.underlying3 (a := 0) (by decide)) hk
  obtain ⟨c, rfl, hc, hwc⟩ := plainElem_int_inv Tryz.underlying3 hv
  have hh : Maps.has Dl (kl s) = waitsI S.q s := by
    unfold waitsI
    by_cases h0 : 0 ≤ s
    · rw [if_pos h0]
      obtain ⟨t, rfl⟩ : ∃ t : Nat, s = t := ⟨s.toNat, by omega⟩
      rw [Int.toNat_natCast]
      cases hl : lastQ t S.q with
      | none => exact hlo.no t (lastQ_none hl)
      | some l => obtain ⟨i, _, hla⟩ := lastQ_some hl; exact (hlo.yes t i hla).2
    · rw [if_neg h0]
      cases hx : Maps.has Dl (kl s) with
      | false => rfl
      | true =>
        obtain ⟨t, _, e⟩ := hlo.rng _ hx
        simp at e
        omega
  rw [hh] at hlk
  generalize waitsI S.q s = yes at *
  clear a1 h hk hml hlo hv hc hwc hh hwf
  go_enter_defers Tryz.func117, Tryz.ntmps117
  go_wp2_with (first | (go_at_call 60; refine hus.mono ?_; rintro e w9 ⟨rfl, hw9⟩; rw [hw9]; clear hw9 hus) | (go_at_call 61; refine (lock_free Tryz.muLib ⟨b, 0, none⟩ _ c0 z0).mono ?_; rintro e w9 ⟨rfl, hw9⟩; rw [hw9]; clear hw9))
  refine leaves_cons (f := 62) (args := #[.pointer (some ⟨b, 0, none⟩)]) (by simp) (by simp [go_sem]) ?_
  refine (unlock_deferred Tryz.muLib ⟨b, 0, none⟩ .returning _ (HA1.out.rk.c 0) (HA1.out.rk.fz 0)).mono ?_
  rintro e u' w'' ⟨rfl, rfl, rfl⟩
  exact ⟨_, results_tmp rfl _ _ _, rfl, HA1.out.put 0 (.int .i32 0) 0 S.st rfl⟩
/-- is there such a sector? -/
def inD (n : Nat) (s : Int) : Bool := decide (0 ≤ s ∧ s < n)
/-- Read: the error, the bytes, the disk -/
def rdE (S : Dk) (s : Int) : Int := if inD S.n s = true then (if hitF S.fs 1 s = true then 33 else 0) else 31
def rdL (S : Dk) (s : Int) : Bl := if inD S.n s = true then (if hitF S.fs 1 s = true then [] else look S s.toNat) else []
def rdS (S : Dk) (s : Int) : Dk := if inD S.n s = true then (if hitF S.fs 1 s = true then failS S 1 s else readS (failS S 1 s)) else S
theorem read_gen {w : World} {b ms ml : Nat} {qv fv : Value} {S : Dk} (h : RK w 0 b ms ml qv fv S) (hf : FsOk S.fs) (s : Int) :
    Calls Tryz.prog 45 #[.pointer (some ⟨b, 0, none⟩), .int .i64 s] w fun r w' => ∃ v fv1, r = .returned (.tuple #[v, .int .i64 (rdE S s)]) ∧ w'.ownsRow w.heap.size 5 1 v (rdL S s).length ((rdL S s).map bv) ∧ DAct w w' 0 b ms ml ms ml qv fv qv fv1 (rdS S s) := by
  unfold rdE rdL rdS
  by_cases hr : 0 ≤ s ∧ s < S.n
  · have hi : inD S.n s = true := decide_eq_true hr
    rw [if_pos hi, if_pos hi, if_pos hi]
    obtain ⟨t, rfl⟩ : ∃ t : Nat, s = t := ⟨s.toNat, by omega⟩
    have ht : t < S.n := by omega
    by_cases hh : hitF S.fs 1 t = true
    · rw [if_pos hh, if_pos hh, if_pos hh]
      refine (read_hit h hf ht hh).mono ?_
      rintro r w' ⟨fv1, rfl, ha⟩
      exact ⟨_, fv1, rfl, World.ownsRow_nil _ _ _ _, ha⟩
    · rw [if_neg hh, if_neg hh, if_neg hh]
      refine (read_hitless h hf ht (by simpa using hh)).mono ?_
      rintro r w' ⟨v, fv1, rfl, ho, ha⟩
      refine ⟨v, fv1, rfl, ?_, ha⟩
      rw [Int.toNat_natCast, (look_ok h ht).len]
      exact ho
  · have hi : ¬ inD S.n s = true := by unfold inD; simpa using hr
    rw [if_neg hi, if_neg hi, if_neg hi]
    refine (read_out h hr).mono ?_
    rintro r w' ⟨rfl, ha⟩
    exact ⟨_, fv, rfl, World.ownsRow_nil _ _ _ _, ha⟩
/-- Write -/
def wrE (S : Dk) (s : Int) (l : List Nat) : Int := if inD S.n s = true then (if l.length = 512 then (if hitF S.fs 2 s = true then 33 else 0) else 32) else 31
def wrS (S : Dk) (s : Int) (l : List Nat) : Dk := if inD S.n s = true then (if l.length = 512 then (if hitF S.fs 2 s = true then (if landF S.fs 2 s = true then pushS (failS S 2 s) s.toNat l else failS S 2 s) else wrote (failS S 2 s) s.toNat l) else S) else S
theorem write_gen {w : World} {b ms ml : Nat} {qv fv : Value} {S : Dk} (h : RK w 0 b ms ml qv fv S) (hf : FsOk S.fs) (hql : S.q.length < 1048576) (s : Int) {l : List Nat} (hlt : ∀ x ∈ l, x < 256) {m : Nat} (hm : l.length = m) (hm1 : m ≤ 140737488351232) {sb so cap : Nat} (hsrc : ∀ j v, (l.map bv)[j]? = some v → w.cell? ⟨sb, so + j, none⟩ = some v) (hsb : sb ∉ fp b ms ml qv fv) :
    Calls Tryz.prog 114 #[.pointer (some ⟨b, 0, none⟩), .int .i64 s, .slice (some ⟨sb, so, none⟩) m cap] w fun r w' => r = .returned (.int .i64 (wrE S s l)) ∧ ∃ qv' fv1, DAct w w' 0 b ms ml ms ml qv fv qv' fv1 (wrS S s l) := by
  unfold wrE wrS
  by_cases hr : 0 ≤ s ∧ s < S.n
  · have hi : inD S.n s = true := decide_eq_true hr
    rw [if_pos hi, if_pos hi]
    obtain ⟨t, rfl⟩ : ∃ t : Nat, s = t := ⟨s.toNat, by omega⟩
    have ht : t < S.n := by omega
    by_cases hl : l.length = 512
    · rw [if_pos hl, if_pos hl]
      have hok : OkB l := ⟨hl, hlt⟩
      obtain rfl : m = 512 := by omega
      rw [Int.toNat_natCast]
      by_cases hh : hitF S.fs 2 t = true
      · rw [if_pos hh, if_pos hh]
        by_cases hd : landF S.fs 2 t = true
        · rw [if_pos hd]
          refine (write_land h hf ht hh hd hok hql hsrc hsb).mono ?_
          rintro r w' ⟨qv', fv1, rfl, ha⟩
          exact ⟨rfl, qv', fv1, ha⟩
        · rw [if_neg hd]
          refine (write_lost h hf ht hh (by simpa using hd) _ _).mono ?_
          rintro r w' ⟨fv1, rfl, ha⟩
          exact ⟨rfl, qv, fv1, ha⟩
      · rw [if_neg hh, if_neg hh]
        refine (write_hitless h hf ht (by simpa using hh) hok hql hsrc hsb).mono ?_
        rintro r w' ⟨qv', fv1, rfl, ha⟩
        exact ⟨rfl, qv', fv1, ha⟩
    · rw [if_neg hl, if_neg hl]
      refine (write_len h ht (by omega) hm1 _ _).mono ?_
      rintro r w' ⟨rfl, ha⟩
      exact ⟨rfl, qv, fv, ha⟩
  · have hi : ¬ inD S.n s = true := by unfold inD; simpa using hr
    rw [if_neg hi, if_neg hi]
    refine (write_out h hr _ _ _).mono ?_
    rintro r w' ⟨rfl, ha⟩
    exact ⟨rfl, qv, fv, ha⟩
/-- Barrier -/
def baE (S : Dk) : Int := if hitF S.fs 3 (-1) = true then 33 else 0
def baS (S : Dk) : Dk := if hitF S.fs 3 (-1) = true then failS S 3 (-1) else barred (failS S 3 (-1))
theorem barrier_gen {w : World} {b ms ml : Nat} {qv fv : Value} {S : Dk} (h : RK w 0 b ms ml qv fv S) (hf : FsOk S.fs) (hql : S.q.length ≤ 1048576) :
    Calls Tryz.prog 110 #[.pointer (some ⟨b, 0, none⟩)] w fun r w' => r = .returned (.int .i64 (baE S)) ∧ ∃ ml' qv' fv1, DAct w w' 0 b ms ml ms ml' qv fv qv' fv1 (baS S) := by
  unfold baE baS
  by_cases hh : hitF S.fs 3 (-1) = true
  · rw [if_pos hh, if_pos hh]
    refine (barrier_hit h hf hh).mono ?_
    rintro r w' ⟨fv1, rfl, ha⟩
    exact ⟨rfl, ml, qv, fv1, ha⟩
  · rw [if_neg hh, if_neg hh]
    refine (barrier_hitless h hf (by simpa using hh) hql).mono ?_
    rintro r w' ⟨ml', fv1, rfl, ha⟩
    exact ⟨rfl, ml', _, fv1, ha⟩
/-- Fault -/
def faOk (S : Dk) (f : Flt) : Bool := may S.n f && decide (S.fs.length < 64)
def faE (S : Dk) (f : Flt) : Int := if faOk S f = true then 0 else 34
def faS (S : Dk) (f : Flt) : Dk := if faOk S f = true then armS S f else S
theorem fault_gen {w : World} {b ms ml : Nat} {qv fv : Value} {S : Dk} (h : RK w 0 b ms ml qv fv S) (hf : FsOk S.fs) (f : Flt) :
    Calls Tryz.prog 33 #[.pointer (some ⟨b, 0, none⟩), .agg #[.int .i64 f.kind, .int .i64 f.sector, .int .i64 f.after, .int .i64 f.times, .bool f.land]] w fun r w' => r = .returned (.int .i64 (faE S f)) ∧ ∃ fv1, DAct w w' 0 b ms ml ms ml qv fv qv fv1 (faS S f) := by
  unfold faE faS
  by_cases hm : may S.n f = true
  · by_cases hl : S.fs.length < 64
    · have hi : faOk S f = true := by simp [faOk, hm, hl]
      rw [if_pos hi, if_pos hi]
      exact fault_any h hf _ _ _ _ _ hm hl
    · have hi : ¬ faOk S f = true := by simp [faOk, hl]
      rw [if_neg hi, if_neg hi]
      refine (fault_bad h hf _ _ _ _ _ (.inr (by omega))).mono ?_
      rintro r w' ⟨rfl, ha⟩
      exact ⟨rfl, fv, ha⟩
  · have hi : ¬ faOk S f = true := by simp [faOk, hm]
    rw [if_neg hi, if_neg hi]
    refine (fault_bad h hf _ _ _ _ _ (.inl (by simpa using hm))).mono ?_
    rintro r w' ⟨rfl, ha⟩
    exact ⟨rfl, fv, ha⟩
/-- an Int that an int holds -/
abbrev I64 (z : Int) : Prop := -9223372036854775808 ≤ z ∧ z ≤ 9223372036854775807
theorem rdS_ok {S : Dk} (h : FsOk S.fs) (s : Int) : FsOk (rdS S s).fs := by
  unfold rdS
  split
  · split
    · exact failS_ok h _ _
    · exact failS_ok h _ _
  · exact h
theorem wrS_ok {S : Dk} (h : FsOk S.fs) (s : Int) (l : List Nat) : FsOk (wrS S s l).fs := by
  unfold wrS
  split
  · split
    · split
      · split
        · exact failS_ok h _ _
        · exact failS_ok h _ _
      · exact failS_ok h _ _
    · exact h
  · exact h
theorem baS_ok {S : Dk} (h : FsOk S.fs) : FsOk (baS S).fs := by
  unfold baS
  split
  · exact failS_ok h _ _
  · exact failS_ok h _ _
theorem faS_ok {S : Dk} (h : FsOk S.fs) {f : Flt} (ha : I64 f.after) (ht : I64 f.times) : FsOk (faS S f).fs := by
  unfold faS
  split
  · rename_i hi
    simp only [faOk, may, Bool.and_eq_true, decide_eq_true_eq] at hi
    refine ⟨fun x hx => ?_, ?_⟩
    · simp only [armS, List.mem_append, List.mem_singleton] at hx
      rcases hx with hx | rfl
      · exact h.ok x hx
      · exact ⟨hi.1.1.2, ha.2, hi.1.2, ht.2⟩
    · simp [armS]; omega
  · exact h
theorem rdS_q (S : Dk) (s : Int) : (rdS S s).q = S.q := by
  unfold rdS
  split
  · split
    · exact failS_q _ _ _
    · exact failS_q _ _ _
  · rfl
theorem wrS_q (S : Dk) (s : Int) (l : List Nat) : (wrS S s l).q.length ≤ S.q.length + 1 := by
  unfold wrS
  split
  · split
    · split
      · split
        · simp [pushS, failS_q]
        · simp [failS_q]
      · simp [wrote, failS_q]
    · omega
  · omega
theorem baS_q (S : Dk) : (baS S).q.length ≤ S.q.length := by
  unfold baS
  split
  · simp [failS_q]
  · simp [barred, settled]
theorem faS_q (S : Dk) (f : Flt) : (faS S f).q = S.q := by
  unfold faS
  split <;> rfl
end Go.Proofs.YtlacligofhinmaaGreat.K

namespace Go.Proofs.YtlacligofhinmaaGreat.K
open Go.RowKit Go.Maps Go.Proofs.YtlacligofhinmaaGreat
attribute [local go_sem] Oper.semAt_some
set_option linter.unusedVariables false
set_option linter.unusedSimpArgs false
set_option maxRecDepth 100000

/-- the blocks of the document's disk -/
def fr (p : Nat) (dv qv av : Value) (X : List Pv) : List Nat := p :: (dv.ownBlock.toList ++ (qv.ownBlock.toList ++ (av.ownBlock.toList ++ X.flatMap fun x => x.2.1.ownBlock.toList)))
def rst (n : Nat) (dv qv av : Value) (st : Sts) : Array Value := #[.int .i64 n, .slice none 0 0, dv, qv, av, .int .u64 st.reads, .int .u64 st.writes, .int .u64 st.bars, .int .u64 st.failed, .int .u64 st.crashes]
/-- the document's disk in memory -/
structure RR (w : World) (p : Nat) (dv qv av : Value) (D Q : List Pv) (S : Dk) : Prop where
  blk : w.heap[p]? = some (.cells (rst S.n dv qv av S.st) TRf (0, 0))
  n0 : 1 ≤ S.n
  n1 : S.n ≤ 65536
  dr : w.ownsRow 0 TPt 2 dv D.length (qcells D)
  qr : w.ownsRow 0 TPt 2 qv Q.length (qcells Q)
  fr : w.ownsRow 0 TFa 5 av S.fs.length (fcells S.fs)
  dat : ∀ x ∈ D ++ Q, w.ownsRow 0 5 1 x.2.1 512 (x.2.2.map bv)
  ok : ∀ x ∈ D ++ Q, x.1 < S.n ∧ OkB x.2.2
  ne : ∀ g, dv.ownBlock = some g → qv.ownBlock ≠ some g
  q : Q.map bare = S.q
  sf : ∀ s, s < S.n → S.safe s = (lastQ s (D.map bare)).getD z512
  qz : Q = [] → qv = .slice none 0 0
theorem mem_fr {p i : Nat} {dv qv av : Value} {X : List Pv} : i ∈ fr p dv qv av X ↔ i = p ∨ dv.ownBlock = some i ∨ qv.ownBlock = some i ∨ av.ownBlock = some i ∨ ∃ x ∈ X, x.2.1.ownBlock = some i := by
  simp [fr, List.mem_flatMap]
section
variable {w w' : World} {p : Nat} {dv qv av : Value} {D Q : List Pv} {S : Dk}
theorem RR.c (h : RR w p dv qv av D Q S) (j : Nat) : w.cell? ⟨p, j, none⟩ = (rst S.n dv qv av S.st)[j]? := cell_of h.blk
theorem RR.fz (h : RR w p dv qv av D Q S) (j : Nat) : w.frozen? ⟨p, j, none⟩ = false := frozen_of h.blk
theorem RR.lt (h : RR w p dv qv av D Q S) : ∀ i ∈ Go.Proofs.YtlacligofhinmaaGreat.K.fr p dv qv av (D ++ Q), i < w.heap.size := by
  intro i hi
  rcases mem_fr.1 hi with rfl | hi | hi | hi | ⟨x, hx, hi⟩
  · exact (Array.getElem?_eq_some_iff.1 h.blk).1
  · exact (row_lt h.dr i hi).1
  · exact (row_lt h.qr i hi).1
  · exact (row_lt h.fr i hi).1
  · exact (row_lt (h.dat x hx) i hi).1
theorem RR.same (h : RR w p dv qv av D Q S) (hs : ∀ i ∈ Go.Proofs.YtlacligofhinmaaGreat.K.fr p dv qv av (D ++ Q), w'.heap[i]? = w.heap[i]?) : RR w' p dv qv av D Q S :=
  ⟨(hs p (mem_fr.2 (.inl rfl))).trans h.blk, h.n0, h.n1, ownsRow_block h.dr fun g e => hs g (mem_fr.2 (.inr (.inl e))), ownsRow_block h.qr fun g e => hs g (mem_fr.2 (.inr (.inr (.inl e)))), ownsRow_block h.fr fun g e => hs g (mem_fr.2 (.inr (.inr (.inr (.inl e))))), fun x hx => ownsRow_block (h.dat x hx) fun g e => hs g (mem_fr.2 (.inr (.inr (.inr (.inr ⟨x, hx, e⟩))))), h.ok, h.ne, h.q, h.sf, h.qz⟩
theorem RR.later (h : RR w p dv qv av D Q S) (hb : Below w.heap.size w w') : RR w' p dv qv av D Q S := h.same fun i hi => hb.block i (h.lt i hi)
theorem RR.kept {F : List Nat} (h : RR w p dv qv av D Q S) (hk : Kp w w' F) (hd : ∀ i ∈ Go.Proofs.YtlacligofhinmaaGreat.K.fr p dv qv av (D ++ Q), i ∉ F) : RR w' p dv qv av D Q S := h.same fun i hi => hk.block i (h.lt i hi) (hd i hi)
theorem own_types {B B' T T' size size' n n' g : Nat} {v v' : Value} {xs xs' : List Value} (h : w.ownsRow B T size v n xs) (h' : w.ownsRow B' T' size' v' n' xs') (hT : T ≠ T') (e : v.ownBlock = some g) : v'.ownBlock ≠ some g := fun e' => by
  obtain ⟨_, cs, hc⟩ := row_lt h g e
  obtain ⟨_, cs', hc'⟩ := row_lt h' g e'
  rw [hc] at hc'
  simp at hc'
  exact hT hc'.2
theorem blk_types {B T T' size n g : Nat} {v : Value} {xs : List Value} {cs : Array Value} (hb : w.heap[g]? = some (.cells cs T' (0, 0))) (h : w.ownsRow B T size v n xs) (hT : T ≠ T') : v.ownBlock ≠ some g := fun e' => by
  obtain ⟨_, cs', hc'⟩ := row_lt h g e'
  rw [hb] at hc'
  simp at hc'
  exact hT hc'.2.symm
theorem RR.pne (h : RR w p dv qv av D Q S) : dv.ownBlock ≠ some p ∧ qv.ownBlock ≠ some p ∧ av.ownBlock ≠ some p ∧ ∀ x ∈ D ++ Q, x.2.1.ownBlock ≠ some p :=
  ⟨blk_types h.blk h.dr (by decide), blk_types h.blk h.qr (by decide), blk_types h.blk h.fr (by decide), fun x hx => blk_types h.blk (h.dat x hx) (by decide)⟩
end
/-- what a call on the document's disk leaves -/
structure RAct (w w' : World) (p : Nat) (dv qv av : Value) (D Q : List Pv) (dv' qv' av' : Value) (D' Q' : List Pv) (S' : Dk) : Prop where
  rk : RR w' p dv' qv' av' D' Q' S'
  kp : Kp w w' (fr p dv qv av (D ++ Q))
  sub : ∀ i ∈ fr p dv' qv' av' (D' ++ Q'), i ∈ fr p dv qv av (D ++ Q) ∨ w.heap.size ≤ i
section
variable {w w' w0 : World} {p : Nat} {dv qv av dv' qv' av' dv2 qv2 av2 : Value} {D Q D' Q' D2 Q2 : List Pv} {S S' S2 : Dk}
theorem RAct.refl (h : RR w p dv qv av D Q S) : RAct w w p dv qv av D Q dv qv av D Q S := ⟨h, Kp.refl _ _, fun _ h => .inl h⟩
theorem RAct.trans {w1 w2 : World} (h : RAct w w1 p dv qv av D Q dv' qv' av' D' Q' S') (h' : RAct w1 w2 p dv' qv' av' D' Q' dv2 qv2 av2 D2 Q2 S2) : RAct w w2 p dv qv av D Q dv2 qv2 av2 D2 Q2 S2 :=
  ⟨h'.rk, h.kp.trans h'.kp (fun i hi => h.sub i hi), fun i hi => (h'.sub i hi).elim (fun h1 => h.sub i h1) (fun h1 => .inr (Nat.le_trans h.kp.size h1))⟩
theorem RAct.later (h : RAct w w' p dv qv av D Q dv' qv' av' D' Q' S') (hb : Below w'.heap.size w' w0) : RAct w w0 p dv qv av D Q dv' qv' av' D' Q' S' :=
  ⟨h.rk.later hb, h.kp.trans (Kp.of_below hb []) (by simp), h.sub⟩
/-- the counts turn -/
theorem RAct.put (h : RAct w w' p dv qv av D Q dv' qv' av' D' Q' S') (j : Nat) (v : Value) (st' : Sts) (hb : (rst S'.n dv' qv' av' S'.st).setIfInBounds j v = rst S'.n dv' qv' av' st') : RAct w (w'.setCell ⟨p, j, none⟩ v) p dv qv av D Q dv' qv' av' D' Q' { S' with st := st' } := by
  obtain ⟨a1, a2, a3, a4⟩ := h.rk.pne
  have hs : ∀ i, i ≠ p → (w'.setCell ⟨p, j, none⟩ v).heap[i]? = w'.heap[i]? := fun i hi => Below.heap_setCell _ _ _ _ hi
  have hn : ∀ {x : Value} {g : Nat}, x.ownBlock ≠ some p → x.ownBlock = some g → g ≠ p := fun h1 h2 e => h1 (by rw [h2, e])
  exact ⟨⟨by rw [blk_set h.rk.blk, hb], h.rk.n0, h.rk.n1, ownsRow_block h.rk.dr fun g e => hs g (hn a1 e), ownsRow_block h.rk.qr fun g e => hs g (hn a2 e), ownsRow_block h.rk.fr fun g e => hs g (hn a3 e), fun x hx => ownsRow_block (h.rk.dat x hx) fun g e => hs g (hn (a4 x hx) e), h.rk.ok, h.rk.ne, h.rk.q, h.rk.sf, h.rk.qz⟩, h.kp.set (.inl (mem_fr.2 (.inl rfl))) _ _, h.sub⟩
/-- the queue has grown -/
theorem RR.newQ {w5 W : World} (h : RR w p dv qv av D Q S) (hb : Below w.heap.size w w5) (hg : w5.grownBy W qv.ownBlock) {x : Pv} {g' m cap' : Nat} (hx : w5.ownsRow 0 5 1 x.2.1 512 (x.2.2.map bv)) (hx0 : ∀ g, x.2.1.ownBlock = some g → w.heap.size ≤ g) (hxs : x.1 < S.n) (hxo : OkB x.2.2) (hrow : W.ownsRow 0 TPt 2 (.slice (some ⟨g', 0, none⟩) m cap') (Q.length + 1) (qcells Q ++ qcell x)) (hat : qv.ownBlock = some g' ∨ w.heap.size ≤ g') (hgl : g' < W.heap.size) :
    W.heap[p]? = w.heap[p]? ∧ RAct w (W.setCell ⟨p, 3, none⟩ (.slice (some ⟨g', 0, none⟩) m cap')) p dv qv av D Q dv (.slice (some ⟨g', 0, none⟩) m cap') av D (Q ++ [x]) { S with q := S.q ++ [bare x] } := by
  obtain ⟨a1, a2, a3, a4⟩ := h.pne
  have hlt := h.lt
  have hk : ∀ i, i < w.heap.size → qv.ownBlock ≠ some i → W.heap[i]? = w.heap[i]? := fun i h1 h2 => (hg.block i (Nat.lt_of_lt_of_le h1 hb.size) (fun e => h2 e.symm)).trans (hb.block i h1)
  have hpl := hlt p (mem_fr.2 (.inl rfl))
  have hp : W.heap[p]? = w.heap[p]? := hk p hpl a2
  have hgp : g' ≠ p := by
    rcases hat with e | e
    · exact fun e' => a2 (by rw [e, e'])
    · omega
  have hs : ∀ i, i ≠ p → (W.setCell ⟨p, 3, none⟩ (.slice (some ⟨g', 0, none⟩) m cap')).heap[i]? = W.heap[i]? := fun i hi => Below.heap_setCell _ _ _ _ hi
  have hrow' : (W.setCell ⟨p, 3, none⟩ (.slice (some ⟨g', 0, none⟩) m cap')).ownsRow 0 TPt 2 (.slice (some ⟨g', 0, none⟩) m cap') (Q.length + 1) (qcells Q ++ qcell x) := ownsRow_block hrow (fun g e => hs g (by simp [Value.ownBlock] at e; omega))
  have hdq : ∀ y ∈ D ++ Q, ∀ g, y.2.1.ownBlock = some g → qv.ownBlock ≠ some g := fun y hy g e => own_types (h.dat y hy) h.qr (by decide) e
  have hx5 : ∀ g, x.2.1.ownBlock = some g → g < w5.heap.size ∧ qv.ownBlock ≠ some g := fun g e => ⟨(row_lt hx g e).1, fun e2 => by have := hx0 g e; have := (row_lt h.qr g e2).1; omega⟩
  refine ⟨hp, ⟨by rw [blk_set (hp.trans h.blk)]; rfl, h.n0, h.n1, ownsRow_block h.dr fun g e => (hs g (fun e' => a1 (by rw [e, e']))).trans (hk g (row_lt h.dr g e).1 (h.ne g e)), by simpa [qcells] using hrow', ownsRow_block h.fr fun g e => (hs g (fun e' => a3 (by rw [e, e']))).trans (hk g (row_lt h.fr g e).1 (own_types h.fr h.qr (by decide) e)), ?_, ?_, ?_, by simp [h.q], h.sf, fun e => by simp at e⟩, ?_, ?_⟩
  · intro y hy
    have hy' : y ∈ D ++ Q ∨ y = x := by simpa [or_assoc] using hy
    rcases hy' with hy | rfl
    · exact ownsRow_block (h.dat y hy) fun g e => (hs g (fun e' => a4 y hy (by rw [e, e']))).trans (hk g (row_lt (h.dat y hy) g e).1 (hdq y hy g e))
    · exact ownsRow_block hx fun g e => (hs g (by have := hx0 g e; omega)).trans (hg.block g (hx5 g e).1 (fun e2 => (hx5 g e).2 e2.symm))
  · intro y hy
    have hy' : y ∈ D ++ Q ∨ y = x := by simpa [or_assoc] using hy
    rcases hy' with hy | rfl
    · exact h.ok y hy
    · exact ⟨hxs, hxo⟩
  · intro g e e2
    simp [Value.ownBlock] at e2
    subst e2
    rcases hat with h1 | h1
    · exact h.ne _ e h1
    · have := (row_lt h.dr _ e).1; omega
  · exact Kp.set (Kp.grown (Kp.of_below hb _) hg (fun k e => .inl (mem_fr.2 (.inr (.inr (.inl e)))))) (.inl (mem_fr.2 (.inl rfl))) _ _
  · intro i hi
    rcases mem_fr.1 hi with rfl | hi | hi | hi | ⟨y, hy, hi⟩
    · exact .inl (mem_fr.2 (.inl rfl))
    · exact .inl (mem_fr.2 (.inr (.inl hi)))
    · simp [Value.ownBlock] at hi
      subst hi
      rcases hat with h1 | h1
      · exact .inl (mem_fr.2 (.inr (.inr (.inl h1))))
      · exact .inr h1
    · exact .inl (mem_fr.2 (.inr (.inr (.inr (.inl hi)))))
    · have hy' : y ∈ D ++ Q ∨ y = x := by simpa [or_assoc] using hy
      rcases hy' with hy | rfl
      · exact .inl (mem_fr.2 (.inr (.inr (.inr (.inr ⟨y, hy, hi⟩)))))
      · exact .inr (hx0 i (by assumption))
/-- the safe writes have grown -/
theorem RR.newD {w5 W : World} (h : RR w p dv qv av D Q S) (hb : Below w.heap.size w w5) (hg : w5.grownBy W dv.ownBlock) {X : List Pv} {dv' : Value} (hX : ∀ x ∈ X, x ∈ Q) (hrow : W.ownsRow 0 TPt 2 dv' (D.length + X.length) (qcells D ++ qcells X)) (hat : ∀ g', dv'.ownBlock = some g' → dv.ownBlock = some g' ∨ w.heap.size ≤ g') {f : Nat → Bl} (hf : ∀ s, s < S.n → f s = (lastQ s ((D ++ X).map bare)).getD z512) :
    W.heap[p]? = w.heap[p]? ∧ RAct w (W.setCell ⟨p, 2, none⟩ dv') p dv qv av D Q dv' qv av (D ++ X) Q { S with safe := f } := by
  obtain ⟨a1, a2, a3, a4⟩ := h.pne
  have hlt := h.lt
  have hk : ∀ i, i < w.heap.size → dv.ownBlock ≠ some i → W.heap[i]? = w.heap[i]? := fun i h1 h2 => (hg.block i (Nat.lt_of_lt_of_le h1 hb.size) (fun e => h2 e.symm)).trans (hb.block i h1)
  have hpl := hlt p (mem_fr.2 (.inl rfl))
  have hp : W.heap[p]? = w.heap[p]? := hk p hpl a1
  have hgp : ∀ g', dv'.ownBlock = some g' → g' ≠ p := fun g' e => by
    rcases hat g' e with e1 | e1
    · exact fun e' => a1 (by rw [e1, e'])
    · omega
  have hs : ∀ i, i ≠ p → (W.setCell ⟨p, 2, none⟩ dv').heap[i]? = W.heap[i]? := fun i hi => Below.heap_setCell _ _ _ _ hi
  have hrow' : (W.setCell ⟨p, 2, none⟩ dv').ownsRow 0 TPt 2 dv' (D.length + X.length) (qcells D ++ qcells X) := ownsRow_block hrow (fun g e => hs g (hgp g e))
  have hdq : ∀ y ∈ D ++ Q, ∀ g, y.2.1.ownBlock = some g → dv.ownBlock ≠ some g := fun y hy g e => own_types (h.dat y hy) h.dr (by decide) e
  have hm : ∀ y, y ∈ (D ++ X) ++ Q → y ∈ D ++ Q := fun y hy => by
    simp only [List.mem_append] at hy ⊢
    rcases hy with (hy | hy) | hy
    · exact .inl hy
    · exact .inr (hX y hy)
    · exact .inr hy
  refine ⟨hp, ⟨by rw [blk_set (hp.trans h.blk)]; rfl, h.n0, h.n1, by rw [qcells_append, List.length_append]; exact hrow', ownsRow_block h.qr fun g e => (hs g (fun e' => a2 (by rw [e, e']))).trans (hk g (row_lt h.qr g e).1 (fun e2 => h.ne g e2 e)), ownsRow_block h.fr fun g e => (hs g (fun e' => a3 (by rw [e, e']))).trans (hk g (row_lt h.fr g e).1 (own_types h.fr h.dr (by decide) e)), ?_, fun y hy => h.ok y (hm y hy), ?_, h.q, hf, h.qz⟩, ?_, ?_⟩
  · intro y hy
    have hy := hm y hy
    exact ownsRow_block (h.dat y hy) fun g e => (hs g (fun e' => a4 y hy (by rw [e, e']))).trans (hk g (row_lt (h.dat y hy) g e).1 (hdq y hy g e))
  · intro g e e2
    rcases hat g e with h1 | h1
    · exact h.ne _ h1 e2
    · have := (row_lt h.qr _ e2).1; omega
  · exact Kp.set (Kp.grown (Kp.of_below hb _) hg (fun k e => .inl (mem_fr.2 (.inr (.inl e))))) (.inl (mem_fr.2 (.inl rfl))) _ _
  · intro i hi
    rcases mem_fr.1 hi with rfl | hi | hi | hi | ⟨y, hy, hi⟩
    · exact .inl (mem_fr.2 (.inl rfl))
    · rcases hat i hi with h1 | h1
      · exact .inl (mem_fr.2 (.inr (.inl h1)))
      · exact .inr h1
    · exact .inl (mem_fr.2 (.inr (.inr (.inl hi))))
    · exact .inl (mem_fr.2 (.inr (.inr (.inr (.inl hi)))))
    · exact .inl (mem_fr.2 (.inr (.inr (.inr (.inr ⟨y, hm y hy, hi⟩)))))
/-- the queue is emptied -/
theorem RAct.noQ (h : RAct w w' p dv qv av D Q dv' qv' av' D' Q' S') : RAct w (w'.setCell ⟨p, 3, none⟩ (.slice none 0 0)) p dv qv av D Q dv' (.slice none 0 0) av' D' [] { S' with q := [] } := by
  obtain ⟨a1, a2, a3, a4⟩ := h.rk.pne
  have hs : ∀ i, i ≠ p → (w'.setCell ⟨p, 3, none⟩ (.slice none 0 0)).heap[i]? = w'.heap[i]? := fun i hi => Below.heap_setCell _ _ _ _ hi
  have hn : ∀ {x : Value} {g : Nat}, x.ownBlock ≠ some p → x.ownBlock = some g → g ≠ p := fun h1 h2 e => h1 (by rw [h2, e])
  have hm : ∀ y, y ∈ D' ++ [] → y ∈ D' ++ Q' := fun y hy => by simp at hy; simp [hy]
  refine ⟨⟨by rw [blk_set h.rk.blk]; rfl, h.rk.n0, h.rk.n1, ownsRow_block h.rk.dr fun g e => hs g (hn a1 e), World.ownsRow_nil _ _ _ _, ownsRow_block h.rk.fr fun g e => hs g (hn a3 e), fun x hx => ownsRow_block (h.rk.dat x (hm x hx)) fun g e => hs g (hn (a4 x (hm x hx)) e), fun y hy => h.rk.ok y (hm y hy), fun g _ e => by simp [Value.ownBlock] at e, rfl, h.rk.sf, fun _ => rfl⟩, h.kp.set (.inl (mem_fr.2 (.inl rfl))) _ _, fun i hi => h.sub i ?_⟩
  rcases mem_fr.1 hi with rfl | hi | hi | hi | ⟨y, hy, hi⟩
  · exact mem_fr.2 (.inl rfl)
  · exact mem_fr.2 (.inr (.inl hi))
  · simp [Value.ownBlock] at hi
  · exact mem_fr.2 (.inr (.inr (.inr (.inl hi))))
  · exact mem_fr.2 (.inr (.inr (.inr (.inr ⟨y, hm y hy, hi⟩))))
/-- the faults are others -/
theorem RR.newA {w5 W : World} (h : RR w p dv qv av D Q S) (hk5 : Kp w W av.ownBlock.toList) {fs : List Flt} {av' : Value} (hrow : W.ownsRow 0 TFa 5 av' fs.length (fcells fs)) (hat : ∀ g', av'.ownBlock = some g' → av.ownBlock = some g' ∨ w.heap.size ≤ g') :
    W.heap[p]? = w.heap[p]? ∧ RAct w (W.setCell ⟨p, 4, none⟩ av') p dv qv av D Q dv qv av' D Q { S with fs := fs } := by
  obtain ⟨a1, a2, a3, a4⟩ := h.pne
  have hlt := h.lt
  have hk : ∀ i, i < w.heap.size → av.ownBlock ≠ some i → W.heap[i]? = w.heap[i]? := fun i h1 h2 => hk5.block i h1 (by simpa using h2)
  have hpl := hlt p (mem_fr.2 (.inl rfl))
  have hp : W.heap[p]? = w.heap[p]? := hk p hpl a3
  have hgp : ∀ g', av'.ownBlock = some g' → g' ≠ p := fun g' e => by
    rcases hat g' e with e1 | e1
    · exact fun e' => a3 (by rw [e1, e'])
    · omega
  have hs : ∀ i, i ≠ p → (W.setCell ⟨p, 4, none⟩ av').heap[i]? = W.heap[i]? := fun i hi => Below.heap_setCell _ _ _ _ hi
  refine ⟨hp, ⟨by rw [blk_set (hp.trans h.blk)]; rfl, h.n0, h.n1, ownsRow_block h.dr fun g e => (hs g (fun e' => a1 (by rw [e, e']))).trans (hk g (row_lt h.dr g e).1 (own_types h.dr h.fr (by decide) e)), ownsRow_block h.qr fun g e => (hs g (fun e' => a2 (by rw [e, e']))).trans (hk g (row_lt h.qr g e).1 (own_types h.qr h.fr (by decide) e)), ownsRow_block hrow (fun g e => hs g (hgp g e)), ?_, h.ok, h.ne, h.q, h.sf, h.qz⟩, ?_, ?_⟩
  · intro y hy
    exact ownsRow_block (h.dat y hy) fun g e => (hs g (fun e' => a4 y hy (by rw [e, e']))).trans (hk g (row_lt (h.dat y hy) g e).1 (own_types (h.dat y hy) h.fr (by decide) e))
  · exact Kp.set (hk5.sub (fun i hi => .inl (mem_fr.2 (.inr (.inr (.inr (.inl (by simpa using hi)))))))) (.inl (mem_fr.2 (.inl rfl))) _ _
  · intro i hi
    rcases mem_fr.1 hi with rfl | hi | hi | hi | ⟨y, hy, hi⟩
    · exact .inl (mem_fr.2 (.inl rfl))
    · exact .inl (mem_fr.2 (.inr (.inl hi)))
    · exact .inl (mem_fr.2 (.inr (.inr (.inl hi))))
    · rcases hat i hi with h1 | h1
      · exact .inl (mem_fr.2 (.inr (.inr (.inr (.inl h1)))))
      · exact .inr h1
    · exact .inl (mem_fr.2 (.inr (.inr (.inr (.inr ⟨y, hy, hi⟩)))))
/-- the faults' cells have changed where they stand -/
theorem RR.sameA {W : World} (h : RR w p dv qv av D Q S) (hk5 : Kp w W av.ownBlock.toList) {fs : List Flt} (hrow : W.ownsRow 0 TFa 5 av fs.length (fcells fs)) : RAct w W p dv qv av D Q dv qv av D Q { S with fs := fs } := by
  obtain ⟨a1, a2, a3, a4⟩ := h.pne
  have hk : ∀ i, i < w.heap.size → av.ownBlock ≠ some i → W.heap[i]? = w.heap[i]? := fun i h1 h2 => hk5.block i h1 (by simpa using h2)
  have hpl := h.lt p (mem_fr.2 (.inl rfl))
  refine ⟨⟨(hk p hpl a3).trans h.blk, h.n0, h.n1, ownsRow_block h.dr fun g e => hk g (row_lt h.dr g e).1 (own_types h.dr h.fr (by decide) e), ownsRow_block h.qr fun g e => hk g (row_lt h.qr g e).1 (own_types h.qr h.fr (by decide) e), hrow, fun y hy => ownsRow_block (h.dat y hy) fun g e => hk g (row_lt (h.dat y hy) g e).1 (own_types (h.dat y hy) h.fr (by decide) e), h.ok, h.ne, h.q, h.sf, h.qz⟩, hk5.sub (fun i hi => .inl (mem_fr.2 (.inr (.inr (.inr (.inl (by simpa using hi))))))), fun i hi => .inl hi⟩
end
/-- lists of writes -/
theorem lastQ_cons (s : Nat) (x : Pu) (r : List Pu) : lastQ s (x :: r) = (lastQ s r).or (if x.1 = s then some x.2 else none) := by
  conv => lhs; unfold lastQ
  cases lastQ s r <;> rfl
theorem lastQ_append (s : Nat) (a b : List Pu) : lastQ s (a ++ b) = (lastQ s b).or (lastQ s a) := by
  induction a with
  | nil => simp [lastQ]
  | cons x r ih => rw [List.cons_append, lastQ_cons, ih, lastQ_cons, Option.or_assoc]
/-- what is picked of a queue, up to a place -/
def pick (k : Nat → Bool) (Q : List Pv) : Nat → List Pv
  | 0 => []
  | n + 1 => match Q[n]? with
    | some x => if k n then pick k Q n ++ [x] else pick k Q n
    | none => pick k Q n
theorem pick_sub (k : Nat → Bool) (Q : List Pv) : ∀ n, ∀ x ∈ pick k Q n, x ∈ Q
  | 0, x, hx => by simp [pick] at hx
  | n + 1, x, hx => by
    unfold pick at hx
    split at hx
    · rename_i y hy
      split at hx
      · rcases List.mem_append.1 hx with hx | hx
        · exact pick_sub k Q n x hx
        · simp at hx; subst hx; exact List.mem_of_getElem? hy
      · exact pick_sub k Q n x hx
    · exact pick_sub k Q n x hx
theorem pick_lay (k : Nat → Bool) (Q D : List Pv) (f : Nat → Bl) (N : Nat) (h : ∀ s, s < N → f s = (lastQ s (D.map bare)).getD z512) : ∀ n, ∀ s, s < N → layTo k (Q.map bare) f n s = (lastQ s ((D ++ pick k Q n).map bare)).getD z512
  | 0, s, hs => by simp [layTo, pick, h s hs]
  | n + 1, s, hs => by
    have ih := pick_lay k Q D f N h n s hs
    unfold layTo pick
    rw [List.getElem?_map]
    cases hq : Q[n]? with
    | none => simp only [Option.map_none]; exact ih
    | some x =>
      simp only [Option.map_some]
      by_cases hk : k n = true
      · rw [if_pos hk, if_pos hk, ← List.append_assoc, List.map_append, lastQ_append]
        simp only [List.map_cons, List.map_nil, lastQ, upd]
        by_cases e : s = (bare x).1
        · rw [if_pos e, if_pos e.symm]; rfl
        · rw [if_neg e, if_neg (fun h => e h.symm)]; exact ih
      · rw [if_neg hk, if_neg hk]; exact ih
theorem pick_all (Q : List Pv) : ∀ n, pick (fun _ => true) Q n = Q.take n
  | 0 => by simp [pick]
  | n + 1 => by
    unfold pick
    rw [pick_all Q n, List.take_add_one]
    cases Q[n]? <;> simp
end Go.Proofs.YtlacligofhinmaaGreat.K

namespace Go.Proofs.YtlacligofhinmaaGreat.K
open Go.RowKit Go.Maps Go.Proofs.YtlacligofhinmaaGreat
attribute [local go_sem] Oper.semAt_some
set_option linter.unusedVariables false
set_option linter.unusedSimpArgs false
set_option maxRecDepth 100000

/-- the last write of a sector in a list -/
def lastV (s : Int) : List Pv → Option Pv
  | [] => none
  | x :: r => (lastV s r).or (if (x.1 : Int) = s then some x else none)
theorem lastV_mem {s : Int} {x : Pv} : ∀ {Q : List Pv}, lastV s Q = some x → x ∈ Q ∧ (x.1 : Int) = s
  | [], h => by cases h
  | y :: r, h => by
    unfold lastV at h
    cases hr : lastV s r with
    | some z => rw [hr] at h; simp at h; subst h; obtain ⟨h1, h2⟩ := lastV_mem hr; exact ⟨List.mem_cons_of_mem _ h1, h2⟩
    | none =>
      rw [hr] at h
      simp at h
      obtain ⟨h1, rfl⟩ := h
      exact ⟨by simp, h1⟩
theorem lastV_none {s : Int} : ∀ {Q : List Pv}, (∀ x ∈ Q, (x.1 : Int) ≠ s) → lastV s Q = none
  | [], _ => rfl
  | y :: r, h => by
    unfold lastV
    rw [lastV_none (fun x hx => h x (List.mem_cons_of_mem _ hx)), if_neg (h y (by simp))]
    rfl
theorem lastV_cons (s : Int) (x : Pv) (r : List Pv) : lastV s (x :: r) = (lastV s r).or (if (x.1 : Int) = s then some x else none) := rfl
theorem lastV_bare (s : Nat) : ∀ (Q : List Pv), (lastV s Q).map (fun x => x.2.2) = lastQ s (Q.map bare)
  | [] => rfl
  | y :: r => by
    rw [List.map_cons, lastQ_cons, ← lastV_bare s r, lastV_cons]
    have e2 : (bare y).1 = y.1 ∧ (bare y).2 = y.2.2 := ⟨rfl, rfl⟩
    rw [e2.1, e2.2]
    cases lastV s r with
    | some z => rfl
    | none =>
      by_cases e : y.1 = s
      · rw [if_pos (by omega), if_pos e]; rfl
      · rw [if_neg (by omega), if_neg e]; rfl
theorem lastV_at {s : Int} {x : Pv} : ∀ {Q : List Pv} {i : Nat}, Q[i]? = some x → (x.1 : Int) = s → (∀ (j : Nat) y, i < j → Q[j]? = some y → (y.1 : Int) ≠ s) → lastV s Q = some x
  | [], i, h, _, _ => by simp at h
  | y :: r, 0, h, hs, hn => by
    simp at h; subst h
    unfold lastV
    rw [lastV_none (fun z hz => by obtain ⟨j, hj⟩ := List.getElem?_of_mem hz; exact hn (j + 1) z (by omega) (by simpa using hj)), if_pos hs]
    rfl
  | y :: r, i + 1, h, hs, hn => by
    unfold lastV
    rw [lastV_at (i := i) (by simpa using h) hs (fun j z hj hz => hn (j + 1) z (by omega) (by simpa using hz))]
    rfl
theorem qcells_get : ∀ {Q : List Pv} {i : Nat} {x : Pv}, Q[i]? = some x → (qcells Q)[i * 2]? = some (.int .i64 x.1) ∧ (qcells Q)[i * 2 + 1]? = some x.2.1
  | [], i, x, h => by simp at h
  | y :: r, 0, x, h => by simp at h; subst h; exact ⟨rfl, rfl⟩
  | y :: r, i + 1, x, h => by
    have ih := qcells_get (Q := r) (i := i) (by simpa using h)
    have e : qcells (y :: r) = [.int .i64 y.1, y.2.1] ++ qcells r := by simp [qcells, qcell]
    rw [e, List.getElem?_append_right (by simp; omega), List.getElem?_append_right (by simp; omega)]
    rw [show (i + 1) * 2 - ([.int .i64 y.1, y.2.1] : List Value).length = i * 2 by simp; omega, show (i + 1) * 2 + 1 - ([.int .i64 y.1, y.2.1] : List Value).length = i * 2 + 1 by simp; omega]
    exact ih
theorem qrow_at {w : World} {B g n cap : Nat} {Q : List Pv} (h : w.ownsRow B TPt 2 (.slice (some ⟨g, 0, none⟩) n cap) n (qcells Q)) {i : Nat} {x : Pv} (hi : Q[i]? = some x) (hn : Q.length = n) : w.cell? ⟨g, i * 2, none⟩ = some (.int .i64 x.1) ∧ w.cell? ⟨g, i * 2 + 1, none⟩ = some x.2.1 := by
  have hlt := (List.getElem?_eq_some_iff.1 hi).1
  obtain ⟨h1, h2⟩ := qcells_get hi
  exact ⟨(h.cellAt _ (by omega)).trans h1, (h.cellAt _ (by omega)).trans h2⟩
def lastR (s : Int) (Q : List Pv) : Ending := match lastV s Q with
  | some x => .returned (.tuple #[x.2.1, .bool true])
  | none => .returned (.tuple #[.slice none 0 0, .bool false])
set_option maxHeartbeats 2000000 in
theorem rlast_any {w : World} {B : Nat} {v : Value} {Q : List Pv} (h : w.ownsRow B TPt 2 v Q.length (qcells Q)) (hl : Q.length ≤ 1048576) (s : Int) :
    Calls Tryz.prog 129 #[v, .int .i64 s] w fun r w' => r = lastR s Q ∧ Below w.heap.size w w' := by
  rcases h.2 with ⟨rfl, h0⟩ | ⟨g, cap, cur, rfl, _⟩
  · have : Q = [] := List.length_eq_zero_iff.1 h0
    subst this
    refine (rlast_none w s).mono ?_
    rintro r w' ⟨rfl, rfl⟩
    exact ⟨rfl, Below.refl _ _⟩
  · obtain ⟨n, hn⟩ : ∃ n, n = Q.length := ⟨_, rfl⟩
    have HN : Hid (Q.length = n) := hn.symm
    rw [← hn] at h hl ⊢
    have HR : Hid (w.ownsRow B TPt 2 (.slice (some ⟨g, 0, none⟩) n cap) n (qcells Q)) := h
    clear h hn
    go_enter Tryz.func129, Tryz.ntmps129
    go_wp2
    go_loopw [6] (fun c wr => ∃ k : Nat, k ≤ n ∧ c = .int .i64 ((k : Int) - 1) ∧ Hid (∀ (j : Nat) y, k ≤ j → Q[j]? = some y → (y.1 : Int) ≠ s) ∧ Hid (Below w.heap.size w wr)) (fun c _ => (intOf c + 1).toNat)
    case atStart => exact ⟨n, Nat.le_refl _, rfl, (fun j y hj hy => by have := (List.getElem?_eq_some_iff.1 hy).1; have := HN.out; omega), Below.refl _ _⟩
    case round =>
      obtain ⟨k, hk, rfl, HA, HB⟩ := hrel
      by_cases hk0 : k = 0
      · subst hk0
        have HV : Hid (lastV s Q = none) := lastV_none (fun x hx => by obtain ⟨j, hj⟩ := List.getElem?_of_mem hx; exact HA.out j x (Nat.zero_le _) hj)
        go_wp2
        refine bodyPost_ret (results_tmp2 rfl _ _ _) rfl ⟨?_, HB.out⟩
        unfold lastR
        rw [HV.out]
        rfl
      · obtain ⟨i, rfl⟩ : ∃ i, k = i + 1 := ⟨k - 1, by omega⟩
        obtain ⟨x, hx⟩ : ∃ x, Q[i]? = some x := ⟨_, List.getElem?_eq_getElem (by have := HN.out; omega)⟩
        obtain ⟨q0, q1⟩ := qrow_at (ownsRow_block HR.out (fun g e => HB.out.block g (row_lt HR.out g e).1)) hx HN.out
        have HX : Hid (Q[i]? = some x) := hx
        have ei : ((i + 1 : Nat) : Int) - 1 = (i : Int) := by omega
        rw [ei]
        clear hx ei
        by_cases he : (x.1 : Int) = s
        · have HV : Hid (lastV s Q = some x) := lastV_at HX.out he (fun j y hj hy => HA.out j y hj hy)
          subst he
          go_wp2
          refine bodyPost_ret (results_tmp2 rfl _ _ _) rfl ⟨?_, HB.out⟩
          unfold lastR
          rw [HV.out]
          rfl
        · have HA2 : Hid (∀ (j : Nat) y, i ≤ j → Q[j]? = some y → (y.1 : Int) ≠ s) := fun j y hj hy => by
            by_cases e : j = i
            · subst e; rw [HX.out] at hy; cases hy; exact he
            · exact HA.out j y (by omega) hy
          have he' : ((x.1 : Int) == s) = false := by simpa using he
          go_wp2
          go_roundw
          case rel => exact ⟨i, by omega, rfl, HA2, HB⟩
          case measure => simp [intOf]
end Go.Proofs.YtlacligofhinmaaGreat.K
