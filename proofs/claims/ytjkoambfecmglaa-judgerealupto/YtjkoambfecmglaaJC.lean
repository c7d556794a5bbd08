import Derived.Test.YtjkoambfecmglaaJO
import Derived.Laws.BitsAllLaws
import Derived.Maps.OwnSet
import Derived.Maps.Own
import Derived.DeepKeys4
namespace Go.Proofs.Ytjkoambfecmglaa
open Go.RowKit
set_option linter.unusedVariables false
set_option linter.unusedSimpArgs false
set_option maxRecDepth 100000
theorem only_any (k : Nat) (hk : k < 16) (W : World) : Calls Try.prog 53 #[.int .i64 (k : Int)] W fun e w' => e = .returned (.int .u16 ((2 ^ k : Nat) : Int)) ∧ w' = W := by
  have h1 : IntKind.u16.wrap (2 ^ k) = ((2 ^ k : Nat) : Int) := by
    have : (2 : Nat) ^ k < 65536 := Nat.lt_of_lt_of_le (Nat.pow_lt_pow_right (by decide) hk) (by decide)
    have e : ((2 : Int) ^ k) = ((2 ^ k : Nat) : Int) := by simp
    rw [IntKind.wrap_u16, e]
    generalize 2 ^ k = X at this ⊢
    omega
  go_enter Try.func53, Try.ntmps53
  go_wp2
  go_ret
  exact ⟨by simp, rfl⟩
/-- is E a part of D? -/
def Sub (E D : Nat) : Bool := decide (E &&& (65535 - D) = 0)
theorem Sub_iff {E D : Nat} (hD : D < 65536) (hE : E < 65536) : Sub E D = true ↔ ∀ i, E.testBit i = true → D.testBit i = true := by
  unfold Sub
  rw [decide_eq_true_iff]
  have hb : ∀ i, (65535 - D).testBit i = (decide (i < 16) && !D.testBit i) := fun i => by
    have := Nat.testBit_two_pow_sub_succ (n := 16) hD i
    rw [← this]; congr 1
    show 65535 - D = 65536 - (D + 1)
    omega
  constructor
  · intro h i hi
    have h1 : (E &&& (65535 - D)).testBit i = false := by rw [h]; simp
    rw [Nat.testBit_and, hi, hb, Bool.true_and] at h1
    have hlt : i < 16 := by
      rcases Nat.lt_or_ge i 16 with h2 | h2
      · exact h2
      · have := Nat.testBit_lt_two_pow (x := E) (i := i) (Nat.lt_of_lt_of_le hE (Nat.pow_le_pow_right (n := 2) (by decide) h2))
        rw [hi] at this; cases this
    simpa [hlt] using h1
  · intro h
    apply Nat.eq_of_testBit_eq
    intro i
    rw [Nat.testBit_and, hb, Nat.zero_testBit]
    cases hi : E.testBit i with
    | false => rfl
    | true => rw [h i hi]; simp
theorem holds_any (D E : Nat) (hD : D < 65536) (hE : E < 65536) (W : World) : Calls Try.prog 55 #[.int .u16 (D : Int), .int .u16 (E : Int)] W fun e w' => e = .returned (.bool (Sub E D)) ∧ w' = W := by
  have h1 : (bits BinOp.andNot IntKind.u16 (E : Int) (D : Int) == 0) = Sub E D := by
    rw [u16_andNot_nat E D hE hD]
    unfold Sub
    by_cases h : E &&& (65535 - D) = 0
    · rw [h]; rfl
    · rw [decide_eq_false h, beq_eq_false_iff_ne]; omega
  go_enter Try.func55, Try.ntmps55
  go_wp2
  go_ret
  exact ⟨rfl, rfl⟩
end Go.Proofs.Ytjkoambfecmglaa

namespace Go.Proofs.Ytjkoambfecmglaa
set_option linter.unusedVariables false
set_option linter.unusedSimpArgs false
/-- what is searched: so many operations, those that were answered, those that are before each, what fits, what it leads to -/
structure SP where
  m : Nat
  A : Nat
  ah : Nat → Nat
  fit : Nat → List Nat → Bool
  eff : Nat → List Nat → List Nat
def SP.ok (s : SP) (D : Nat) (bs : List Nat) (k : Nat) : Bool := !Sub (2 ^ k) D && Sub (s.ah k) D && s.fit k bs
/-- an order that leads to the end -/
def SP.Comp (s : SP) : Nat → List Nat → List Nat → Prop
  | D, _, [] => Sub s.A D = true
  | D, bs, k :: t => k < s.m ∧ s.ok D bs k = true ∧ SP.Comp s (D ||| 2 ^ k) (s.eff k bs) t
theorem SP.Comp.done {s : SP} {D : Nat} {bs : List Nat} (h : Sub s.A D = true) : SP.Comp s D bs [] := h
theorem SP.Comp.step {s : SP} {D : Nat} {bs : List Nat} {k : Nat} {t : List Nat} (h1 : k < s.m) (h2 : s.ok D bs k = true) (h3 : SP.Comp s (D ||| 2 ^ k) (s.eff k bs) t) : SP.Comp s D bs (k :: t) := And.intro h1 (And.intro h2 h3)
theorem SP.Comp.end_ {s : SP} {D : Nat} {bs : List Nat} (h : SP.Comp s D bs []) : Sub s.A D = true := h
theorem SP.Comp.inv {s : SP} {D : Nat} {bs : List Nat} {k : Nat} {t : List Nat} (h : SP.Comp s D bs (k :: t)) : k < s.m ∧ s.ok D bs k = true ∧ SP.Comp s (D ||| 2 ^ k) (s.eff k bs) t := h
def SP.Dead (s : SP) (D : Nat) (bs : List Nat) : Prop := ∀ t, ¬ s.Comp D bs t
/-- the first of them -/
def SP.Finds (s : SP) : Nat → List Nat → List Nat → Prop
  | D, _, [] => Sub s.A D = true
  | D, bs, k :: t => Sub s.A D = false ∧ k < s.m ∧ s.ok D bs k = true ∧ (∀ j, j < k → s.ok D bs j = true → s.Dead (D ||| 2 ^ j) (s.eff j bs)) ∧ SP.Finds s (D ||| 2 ^ k) (s.eff k bs) t
theorem SP.Finds.done {s : SP} {D : Nat} {bs : List Nat} (h : Sub s.A D = true) : SP.Finds s D bs [] := h
theorem SP.Finds.step {s : SP} {D : Nat} {bs : List Nat} {k : Nat} {t : List Nat} (h1 : Sub s.A D = false) (h2 : k < s.m) (h3 : s.ok D bs k = true) (h4 : ∀ j, j < k → s.ok D bs j = true → s.Dead (D ||| 2 ^ j) (s.eff j bs)) (h5 : SP.Finds s (D ||| 2 ^ k) (s.eff k bs) t) : SP.Finds s D bs (k :: t) := And.intro h1 (And.intro h2 (And.intro h3 (And.intro h4 h5)))
theorem SP.Finds.end_ {s : SP} {D : Nat} {bs : List Nat} (h : SP.Finds s D bs []) : Sub s.A D = true := h
theorem SP.Finds.inv {s : SP} {D : Nat} {bs : List Nat} {k : Nat} {t : List Nat} (h : SP.Finds s D bs (k :: t)) : Sub s.A D = false ∧ k < s.m ∧ s.ok D bs k = true ∧ (∀ j, j < k → s.ok D bs j = true → s.Dead (D ||| 2 ^ j) (s.eff j bs)) ∧ SP.Finds s (D ||| 2 ^ k) (s.eff k bs) t := h
theorem SP.Finds.comp {s : SP} : ∀ {t : List Nat} {D : Nat} {bs : List Nat}, s.Finds D bs t → s.Comp D bs t
  | [], _, _, h => SP.Comp.done (SP.Finds.end_ h)
  | k :: t, _, _, h => by
    obtain ⟨_, h2, h3, _, h5⟩ := SP.Finds.inv h
    exact SP.Comp.step h2 h3 (SP.Finds.comp h5)
theorem SP.Finds.det {s : SP} : ∀ {t : List Nat} {D : Nat} {bs : List Nat}, s.Finds D bs t → ∀ {t' : List Nat}, s.Finds D bs t' → t = t'
  | [], _, _, h, t', h' => by
    have h1 := SP.Finds.end_ h
    cases t' with
    | nil => rfl
    | cons k' t' =>
      obtain ⟨g1, _⟩ := SP.Finds.inv h'
      rw [h1] at g1; cases g1
  | k :: t, _, _, h, t', h' => by
    obtain ⟨h1, h2, h3, h4, h5⟩ := SP.Finds.inv h
    cases t' with
    | nil => have g := SP.Finds.end_ h'; rw [g] at h1; cases h1
    | cons k' t' =>
      obtain ⟨g1, g2, g3, g4, g5⟩ := SP.Finds.inv h'
      have : k = k' := by
        rcases Nat.lt_trichotomy k k' with e | e | e
        · exact absurd (SP.Finds.comp h5) (g4 k e h3 _)
        · exact e
        · exact absurd (SP.Finds.comp g5) (h4 k' e g3 _)
      subst this
      rw [SP.Finds.det h5 g5]
theorem SP.dead_of {s : SP} {D : Nat} {bs : List Nat} (h1 : Sub s.A D = false) (h2 : ∀ k, k < s.m → s.ok D bs k = true → s.Dead (D ||| 2 ^ k) (s.eff k bs)) : s.Dead D bs := fun t h => by
  cases t with
  | nil => have h := SP.Comp.end_ h; rw [h1] at h; cases h
  | cons k t =>
    obtain ⟨a, b, c⟩ := SP.Comp.inv h
    exact h2 _ a b _ c
theorem SP.Finds.alive {s : SP} {D : Nat} {bs t : List Nat} (h : s.Finds D bs t) : ¬ s.Dead D bs := fun hd => hd t h.comp
theorem nodup_lt : ∀ {n : Nat} {l : List Nat}, l.Nodup → (∀ x ∈ l, x < n) → l.length ≤ n
  | 0, l, _, h => by
    cases l with
    | nil => simp
    | cons x l => exact absurd (h x (by simp)) (by omega)
  | n + 1, l, hd, h => by
    have ih := nodup_lt (n := n) (l := l.erase n) (hd.erase n) (fun x hx => by
      have h1 := h x (List.mem_of_mem_erase hx)
      have h2 : x ≠ n := fun e => by subst e; exact absurd hx (hd.not_mem_erase)
      omega)
    have h3 : l.length ≤ (l.erase n).length + 1 := by
      rw [List.length_erase]; split <;> omega
    omega
theorem nodup_all {n : Nat} {l : List Nat} (hd : l.Nodup) (h : ∀ x ∈ l, x < n) (hl : l.length = n) {i : Nat} (hi : i < n) : i ∈ l := by
  by_cases hm : i ∈ l
  · exact hm
  · have := nodup_lt (n := n) (l := i :: l) (List.nodup_cons.2 ⟨hm, hd⟩) (fun x hx => by
      rcases List.mem_cons.1 hx with rfl | hx
      · exact hi
      · exact h x hx)
    simp at this; omega
/-- the bits of a row of numbers -/
def mask (l : List Nat) : Nat := l.foldl (fun D k => D ||| 2 ^ k) 0
theorem mask_snoc (l : List Nat) (k : Nat) : mask (l ++ [k]) = mask l ||| 2 ^ k := by unfold mask; rw [List.foldl_append]; rfl
theorem mask_bits (i : Nat) : ∀ (l : List Nat) (D : Nat), (l.foldl (fun D k => D ||| 2 ^ k) D).testBit i = (D.testBit i || decide (i ∈ l))
  | [], D => by simp
  | k :: l, D => by
    rw [List.foldl_cons, mask_bits i l, Nat.testBit_or, Nat.testBit_two_pow]
    by_cases h2 : k = i
    · subst h2; simp
    · have h3 : ¬ i = k := fun e => h2 e.symm
      simp [h2, h3]
theorem mask_bit (l : List Nat) (i : Nat) : (mask l).testBit i = decide (i ∈ l) := by
  unfold mask; rw [mask_bits]; simp
theorem mask_lt {l : List Nat} {n : Nat} (h : ∀ x ∈ l, x < n) : mask l < 2 ^ n := by
  apply Nat.lt_pow_two_of_testBit
  intro i hi
  rw [mask_bit, decide_eq_false]
  intro hm
  have := h i hm; omega
end Go.Proofs.Ytjkoambfecmglaa

namespace Go.Proofs.Ytjkoambfecmglaa
open Go.RowKit Go.Maps
set_option linter.unusedVariables false
set_option linter.unusedSimpArgs false
set_option maxRecDepth 100000
abbrev sv (D : Nat) : Value := .int .u16 (D : Int)
/-- one level of the search -/
structure Lv where
  D : Nat
  x : Nat
  a : Option Addr
  c : Nat
  bs : List Nat
abbrev Lv.cells (n : Nat) (v : Lv) : List Value := [sv v.D, .slice v.a n v.c, .int .i64 (v.x : Int)]
abbrev Lv.sl (n : Nat) (v : Lv) : Value := .slice v.a n v.c
abbrev TKey : TypeId := 103
abbrev TMp : TypeId := 89
/-- nothing stands in the map beside its keys -/
def unitE (v : Value) : Option (DataW Unit × List MemPlace) := match v with
  | .agg c => if c.size = 0 then some (.lit (.bool true), []) else none
  | _ => none
theorem unitE_some {v : Value} {x : DataW Unit × List MemPlace} (h : unitE v = some x) : v = .agg #[] := by
  cases v with
  | agg c =>
    simp only [unitE] at h
    split at h
    · rename_i h0
      rw [Array.eq_empty_of_size_eq_zero h0]
    · cases h
  | _ => cases h
theorem keyed : Keyed Try.prog TKey := Keyed.of_law (deep_law_laid (m := 3) (by kernel_rfl) (by decide) (by decide +kernel) (by kernel_rfl) (by kernel_rfl))
abbrev kv (D : Nat) (bs : List Nat) : Value := .agg #[sv D, .string (bstr bs)]
def kl (D : Nat) (bs : List Nat) : Lit := .string (keyBytes [.int .u16 (D : Int), .string (bstr bs).data.toList])
theorem key_some {D : Nat} {bs : List Nat} (hD : D < 65536) (hb : bs.length ≤ 4096) : keyOf Try.prog TKey (kv D bs) = some (kl D bs) := by
  have e1 : Try.prog.underlying TKey = _ := Try.underlying103
  have e2 : Try.prog.keyType TKey = true := by kernel_rfl
  have c1 : Try.prog.cellsOf TKey = 2 := by kernel_rfl
  have c2 : Try.prog.cellsOf 91 = 1 := by kernel_rfl
  have c3 : Try.prog.cellsOf 9 = 1 := by kernel_rfl
  have hs : 1 ≤ Try.prog.types.size := by decide +kernel
  obtain ⟨d, hd⟩ : ∃ d, Try.prog.types.size + 1 = d + 1 + 1 := ⟨Try.prog.types.size - 1, by omega⟩
  have h1' : (Lit.int .u16 (D : Int)).wf = true := by
    simp [Lit.wf, IntKind.min, IntKind.max, IntKind.bits, IntKind.signed]
    omega
  have h2' : (bstr bs).size ≤ maxLen := by
    unfold bstr; rw [strOfNums_size]; simp; unfold maxLen; omega
  unfold keyOf
  rw [e1]
  simp only [e2, Bool.true_and, Value.formed, e1, c1]
  rw [hd]
  simp [kl, Program.keyLits, e1, c1, c2, c3, Value.cells, Try.underlying91, Try.underlying9, h1', h2']
theorem kl_inj {D D' : Nat} {bs bs' : List Nat} (hD : D < 65536) (hb : bs.length ≤ 4096) (hD' : D' < 65536) (hb' : bs'.length ≤ 4096) (hx : ∀ x ∈ bs, x < 256) (hx' : ∀ x ∈ bs', x < 256) (h : kl D bs = kl D' bs') : D = D' ∧ bs = bs' := by
  have h1 := key_some hD hb
  have h2 := key_some hD' hb'
  rw [h] at h1
  have e := keyed.inj h1 h2
  simp at e
  exact ⟨by omega, bstr_inj hx hx' e.2⟩
end Go.Proofs.Ytjkoambfecmglaa

namespace Go.Proofs.Ytjkoambfecmglaa
open Go.RowKit Go.Maps
set_option linter.unusedVariables false
set_option linter.unusedSimpArgs false
set_option maxRecDepth 100000
abbrev lcells (n : Nat) (L : List Lv) : List Value := L.flatMap (Lv.cells n)
theorem lcells_at (n : Nat) : ∀ (L : List Lv) (j c : Nat) (v : Lv), L[j]? = some v → c < 3 → (lcells n L)[j * 3 + c]? = (Lv.cells n v)[c]?
  | [], j, c, v, h, _ => by simp at h
  | u :: L, 0, c, v, h, hc => by
    simp at h
    subst h
    rw [lcells, List.flatMap_cons, List.getElem?_append_left (by simp; omega)]
    simp
  | u :: L, j + 1, c, v, h, hc => by
    have ih := lcells_at n L j c v (by simpa using h) hc
    rw [lcells, List.flatMap_cons, List.getElem?_append_right (by simp; omega)]
    rw [show (j + 1) * 3 + c - (Lv.cells n u).length = j * 3 + c by simp; omega]
    exact ih
theorem lcells_set (n : Nat) : ∀ (L : List Lv) (j c : Nat) (v v' : Lv) (x : Value), L[j]? = some v → c < 3 → Lv.cells n v' = (Lv.cells n v).set c x → (lcells n L).set (j * 3 + c) x = lcells n (L.set j v')
  | [], j, c, v, v', x, h, _, _ => by simp at h
  | u :: L, 0, c, v, v', x, h, hc, he => by
    simp at h
    subst h
    rw [lcells, List.flatMap_cons, List.set_append_left _ _ (by simp; omega), List.set_cons_zero, lcells, List.flatMap_cons, he]
    simp
  | u :: L, j + 1, c, v, v', x, h, hc, he => by
    have ih := lcells_set n L j c v v' x (by simpa using h) hc he
    rw [lcells, List.flatMap_cons, List.set_append_right _ _ (by simp; omega), List.set_cons_succ, lcells, List.flatMap_cons]
    rw [show (j + 1) * 3 + c - (Lv.cells n u).length = j * 3 + c by simp; omega]
    congr 1
theorem set_same {l : List Value} {i : Nat} {x : Value} (h : l[i]? = some x) : l.set i x = l := by
  apply List.ext_getElem?
  intro k
  by_cases e : i = k
  · subst e
    rw [List.getElem?_set_self (List.getElem?_eq_some_iff.1 h).1, h]
  · rw [List.getElem?_set_ne e]
/-- a search in memory -/
structure Sm (W : World) (B Q : Nat) (oa : Option Addr) (m oc A gh hc : Nat) (ah : List Nat) (gv vc n : Nat) (L : List Lv) (r N : Nat) (M : DataW Unit) : Prop where
  blk : W.heap[Q]? = some (.cells #[.slice oa m oc, sv A, .slice (some ⟨gh, 0, none⟩) m hc, .slice (some ⟨gv, 0, none⟩) (m + 1) vc, .map (some r)] 94 (0, 0))
  hQ : B ≤ Q
  ahd : W.ownsRow B 91 1 (.slice (some ⟨gh, 0, none⟩) m hc) m (ah.map sv)
  lvs : W.ownsRow B 97 3 (.slice (some ⟨gv, 0, none⟩) (m + 1) vc) (m + 1) (lcells n L)
  len : L.length = m + 1
  now : ∀ (j : Nat) (v : Lv), L[j]? = some v → W.ownsRow B 5 1 (v.sl n) n (v.bs.map bv) ∧ v.bs.length = n ∧ ∀ x ∈ v.bs, x < 256
  apL : ∀ (i j : Nat) (u v : Lv) (g : Nat), i ≠ j → L[i]? = some u → L[j]? = some v → (u.sl n).ownBlock = some g → (v.sl n).ownBlock ≠ some g
  hr : B ≤ r
  mp : W.ownsMap Try.prog TKey unitE r N M
section
variable {W : World} {B Q m oc A gh hc gv vc n r N : Nat} {oa : Option Addr} {ah : List Nat} {L : List Lv} {M : DataW Unit}
theorem Sm.q0 (h : Sm W B Q oa m oc A gh hc ah gv vc n L r N M) : W.cell? ⟨Q, 0, none⟩ = some (.slice oa m oc) := blk_at h.blk 0
theorem Sm.q1 (h : Sm W B Q oa m oc A gh hc ah gv vc n L r N M) : W.cell? ⟨Q, 1, none⟩ = some (sv A) := blk_at h.blk 1
theorem Sm.q2 (h : Sm W B Q oa m oc A gh hc ah gv vc n L r N M) : W.cell? ⟨Q, 2, none⟩ = some (.slice (some ⟨gh, 0, none⟩) m hc) := blk_at h.blk 2
theorem Sm.q3 (h : Sm W B Q oa m oc A gh hc ah gv vc n L r N M) : W.cell? ⟨Q, 3, none⟩ = some (.slice (some ⟨gv, 0, none⟩) (m + 1) vc) := blk_at h.blk 3
theorem Sm.q4 (h : Sm W B Q oa m oc A gh hc ah gv vc n L r N M) : W.cell? ⟨Q, 4, none⟩ = some (.map (some r)) := blk_at h.blk 4
theorem Sm.ahc (h : Sm W B Q oa m oc A gh hc ah gv vc n L r N M) {k E : Nat} (hk : ah[k]? = some E) : W.cell? ⟨gh, k, none⟩ = some (sv E) := by
  have hl := h.ahd.1
  rw [List.length_map] at hl
  have hkm : k < m := by have := (List.getElem?_eq_some_iff.1 hk).1; omega
  obtain ⟨g, e, _, hc, _⟩ := own_some h.ahd (by omega)
  cases e
  rw [hc k hkm, List.getElem?_map, hk]; rfl
theorem Sm.lvc (h : Sm W B Q oa m oc A gh hc ah gv vc n L r N M) {j c : Nat} {v : Lv} (hj : L[j]? = some v) (hc : c < 3) : W.cell? ⟨gv, j * 3 + c, none⟩ = (Lv.cells n v)[c]? := by
  have hjl := (List.getElem?_eq_some_iff.1 hj).1
  have hl := h.len
  have hw := h.lvs.1
  rw [h.lvs.cellAt (j * 3 + c) (by omega)]
  exact lcells_at n L j c v hj hc
theorem Sm.lvf (h : Sm W B Q oa m oc A gh hc ah gv vc n L r N M) (i : Nat) : W.frozen? ⟨gv, i, none⟩ = false := h.lvs.frozenAt i
theorem Sm.brow (h : Sm W B Q oa m oc A gh hc ah gv vc n L r N M) (hn : n ≤ 4096) {j : Nat} {v : Lv} (hj : L[j]? = some v) : BRow W v.a v.c v.bs := by
  obtain ⟨h1, h2, h3⟩ := h.now j v hj
  subst h2
  obtain ⟨ao, cap, e, hb⟩ := BRow.own h1 h3 (by omega)
  cases e
  exact hb
theorem Sm.nnc (h : Sm W B Q oa m oc A gh hc ah gv vc n L r N M) {j : Nat} {v : Lv} (hj : L[j]? = some v) : n ≤ v.c := by
  rcases (h.now j v hj).1.2 with ⟨h0, h1⟩ | ⟨_, _, _, hv, _, _, h1, _⟩
  · omega
  · simp [Lv.sl] at hv; omega
/-- blocks that are no block of the search may change -/
theorem Sm.far {V : World} (h : Sm W B Q oa m oc A gh hc ah gv vc n L r N M) (hs : W.heap.size ≤ V.heap.size) (hb : ∀ g, g < W.heap.size → B ≤ g → V.heap[g]? = W.heap[g]?) : Sm V B Q oa m oc A gh hc ah gv vc n L r N M where
  blk := (hb Q (block_lt h.blk) h.hQ).trans h.blk
  hQ := h.hQ
  ahd := owns_same h.ahd fun g e => hb g (owns_in h.ahd e).2 (owns_in h.ahd e).1
  lvs := by
    refine ⟨h.lvs.1, ?_⟩
    rcases h.lvs.2 with hv | ⟨g, cap, cur, hv, hg, hc, hr⟩
    · exact .inl hv
    · exact .inr ⟨g, cap, cur, hv, hg, (hb g (block_lt hc) hg).trans hc, hr⟩
  len := h.len
  now j v hj := ⟨owns_same (h.now j v hj).1 fun g e => hb g (owns_in (h.now j v hj).1 e).2 (owns_in (h.now j v hj).1 e).1, (h.now j v hj).2⟩
  apL := h.apL
  hr := h.hr
  mp := by
    obtain ⟨es, clock, h1, h2, h3, h4⟩ := h.mp
    exact ⟨es, clock, (hb r (block_lt h1) h.hr).trans h1, h2, h3, h4⟩
theorem Sm.later {V : World} (h : Sm W B Q oa m oc A gh hc ah gv vc n L r N M) (hb : Below W.heap.size W V) : Sm V B Q oa m oc A gh hc ah gv vc n L r N M := h.far hb.size fun g h1 _ => hb.block g h1
theorem Sm.gvb (h : Sm W B Q oa m oc A gh hc ah gv vc n L r N M) : B ≤ gv ∧ ∃ cur, W.heap[gv]? = some (.cells cur 97 (0, 0)) := by
  rcases h.lvs.2 with ⟨h0, _⟩ | ⟨g, cap, cur, hv, hg, hc, hr⟩
  · cases h0
  · cases hv; exact ⟨hg, cur, hc⟩
theorem Sm.ghb (h : Sm W B Q oa m oc A gh hc ah gv vc n L r N M) : B ≤ gh ∧ ∃ cur, W.heap[gh]? = some (.cells cur 91 (0, 0)) := by
  rcases h.ahd.2 with ⟨h0, _⟩ | ⟨g, cap, cur, hv, hg, hc, hr⟩
  · cases h0
  · cases hv; exact ⟨hg, cur, hc⟩
theorem Sm.nob (h : Sm W B Q oa m oc A gh hc ah gv vc n L r N M) {j g : Nat} {v : Lv} (hj : L[j]? = some v) (hg : (v.sl n).ownBlock = some g) : B ≤ g ∧ ∃ cur, W.heap[g]? = some (.cells cur 5 (0, 0)) := by
  rcases (h.now j v hj).1.2 with ⟨h0, _⟩ | ⟨g', cap, cur, hv, hb, hc, hr⟩
  · rw [h0] at hg; cases hg
  · rw [hv] at hg; cases hg; exact ⟨hb, cur, hc⟩
theorem Sm.mpb (h : Sm W B Q oa m oc A gh hc ah gv vc n L r N M) : ∃ es clock, W.heap[r]? = some (.map es clock) := by
  obtain ⟨es, clock, h1, _⟩ := h.mp
  exact ⟨es, clock, h1⟩
/-- a level's cell changes -/
theorem Sm.put (h : Sm W B Q oa m oc A gh hc ah gv vc n L r N M) {j c : Nat} {v v' : Lv} {x : Value} (hj : L[j]? = some v) (hc3 : c < 3) (he : Lv.cells n v' = (Lv.cells n v).set c x) (hs : v'.sl n = v.sl n) (hb : v'.bs = v.bs) : Sm (W.setCell ⟨gv, j * 3 + c, none⟩ x) B Q oa m oc A gh hc ah gv vc n (L.set j v') r N M := by
  obtain ⟨hgB, cur, hgv⟩ := h.gvb
  obtain ⟨_, cuh, hgh⟩ := h.ghb
  obtain ⟨es, clock, hmp⟩ := h.mpb
  have far : ∀ g, g ≠ gv → (W.setCell ⟨gv, j * 3 + c, none⟩ x).heap[g]? = W.heap[g]? := fun g e => Below.heap_setCell _ _ _ _ e
  have get : ∀ (i : Nat) (u : Lv), (L.set j v')[i]? = some u → ∃ u', L[i]? = some u' ∧ u.sl n = u'.sl n ∧ u.bs = u'.bs := fun i u hu => by
    by_cases e : j = i
    · subst e
      rw [List.getElem?_set_self (List.getElem?_eq_some_iff.1 hj).1] at hu
      cases hu
      exact ⟨v, hj, hs, hb⟩
    · rw [List.getElem?_set_ne e] at hu
      exact ⟨u, hu, rfl, rfl⟩
  obtain ⟨h1, h2⟩ := h.lvs.stored (j * 3 + c) x
  refine ⟨?_, h.hQ, ?_, ?_, by rw [List.length_set]; exact h.len, ?_, ?_, h.hr, ?_⟩
  · rw [far Q (fun e => by have := h.blk; rw [e, hgv] at this; cases this)]; exact h.blk
  · exact owns_same h.ahd fun g e => by cases e; exact far gh (fun e => by rw [e, hgv] at hgh; cases hgh)
  · rw [← lcells_set n L j c v v' x hj hc3 he]; exact h1
  · intro i u hu
    obtain ⟨u', hu', e1, e2⟩ := get i u hu
    obtain ⟨h3, h4⟩ := h.now i u' hu'
    rw [e1, e2]
    refine ⟨owns_same h3 fun g e => far g (fun e3 => ?_), h4⟩
    obtain ⟨_, cu, hcu⟩ := h.nob hu' e
    rw [e3, hgv] at hcu; cases hcu
  · intro i k u w g hik hu hw hg
    obtain ⟨u', hu', e1, _⟩ := get i u hu
    obtain ⟨w', hw', e2, _⟩ := get k w hw
    rw [e1] at hg; rw [e2]
    exact h.apL i k u' w' g hik hu' hw' hg
  · obtain ⟨es, clock, g1, g2⟩ := h.mp
    exact ⟨es, clock, (far r (fun e => by rw [e, hgv] at g1; cases g1)).trans g1, g2⟩
/-- a level's bytes change -/
theorem Sm.row {V : World} (h : Sm W B Q oa m oc A gh hc ah gv vc n L r N M) {j : Nat} {v : Lv} {bs' : List Nat} (hj : L[j]? = some v) (ho : V.ownsRow B 5 1 (v.sl n) n (bs'.map bv)) (hg : W.grownBy V (v.sl n).ownBlock) (hn : bs'.length = n) (hlt : ∀ x ∈ bs', x < 256) : Sm V B Q oa m oc A gh hc ah gv vc n (L.set j { v with bs := bs' }) r N M := by
  obtain ⟨hgB, cur, hgv⟩ := h.gvb
  obtain ⟨_, cuh, hgh⟩ := h.ghb
  obtain ⟨es, clock, hmp⟩ := h.mpb
  have far : ∀ g, g < W.heap.size → (∀ cu, W.heap[g]? ≠ some (.cells cu 5 (0, 0))) → V.heap[g]? = W.heap[g]? := fun g h1 h2 => hg.block g h1 (fun e => by
    obtain ⟨_, cu, hcu⟩ := h.nob hj e.symm
    exact h2 cu hcu)
  refine ⟨?_, h.hQ, ?_, ?_, by rw [List.length_set]; exact h.len, ?_, ?_, h.hr, ?_⟩
  · rw [far Q (block_lt h.blk) (fun cu e => by rw [h.blk] at e; cases e)]; exact h.blk
  · exact owns_same h.ahd fun g e => by cases e; exact far gh (block_lt hgh) (fun cu e => by rw [hgh] at e; cases e)
  · have e1 : lcells n (L.set j { v with bs := bs' }) = lcells n L := by
      rw [← lcells_set n L j 0 v { v with bs := bs' } (sv v.D) hj (by decide) rfl]
      exact set_same (lcells_at n L j 0 v hj (by decide))
    rw [e1]
    refine ⟨h.lvs.1, ?_⟩
    rcases h.lvs.2 with hv | ⟨g, cap, cur2, hv, hg2, hc2, hr2⟩
    · exact .inl hv
    · exact .inr ⟨g, cap, cur2, hv, hg2, (far g (block_lt hc2) (fun cu e => by rw [hc2] at e; cases e)).trans hc2, hr2⟩
  · intro i u hu
    by_cases e : j = i
    · subst e
      rw [List.getElem?_set_self (List.getElem?_eq_some_iff.1 hj).1] at hu
      cases hu
      exact ⟨ho, hn, hlt⟩
    · rw [List.getElem?_set_ne e] at hu
      obtain ⟨h3, h4⟩ := h.now i u hu
      refine ⟨owns_same h3 fun g e2 => hg.block g (owns_in h3 e2).2 (fun e3 => h.apL i j u v g (fun e4 => e e4.symm) hu hj e2 e3.symm), h4⟩
  · intro i k u w g hik hu hw hg2
    have get : ∀ (i : Nat) (u : Lv), (L.set j { v with bs := bs' })[i]? = some u → ∃ u', L[i]? = some u' ∧ u.sl n = u'.sl n := fun i u hu => by
      by_cases e : j = i
      · subst e
        rw [List.getElem?_set_self (List.getElem?_eq_some_iff.1 hj).1] at hu
        cases hu
        exact ⟨v, hj, rfl⟩
      · rw [List.getElem?_set_ne e] at hu
        exact ⟨u, hu, rfl⟩
    obtain ⟨u', hu', e1⟩ := get i u hu
    obtain ⟨w', hw', e2⟩ := get k w hw
    rw [e1] at hg2; rw [e2]
    exact h.apL i k u' w' g hik hu' hw' hg2
  · obtain ⟨es, clock, g1, g2⟩ := h.mp
    exact ⟨es, clock, (far r (block_lt g1) (fun cu e => by rw [g1] at e; cases e)).trans g1, g2⟩
end
end Go.Proofs.Ytjkoambfecmglaa
