import Derived.Test.YtjkoambfecmglaaVTiz
import Derived.Test.YtjkoambfecmglaaVTjz
import Derived.Test.YtjkoambfecmglaaJP
namespace Go.Proofs.Ytjkoambfecmglaa
open Go.RowKit
set_option linter.unusedVariables false
set_option linter.unusedSimpArgs false
set_option maxRecDepth 100000
theorem laidTo_get {bs ds : List Nat} {off m j : Nat} (hb : off + m ≤ bs.length) (hd : m ≤ ds.length) (hj : j < off ∨ off + m ≤ j) : (laidTo bs ds off m)[j]? = bs[j]? := by
  unfold laidTo
  rcases hj with hj | hj
  · rw [List.getElem?_append_left (by rw [List.length_take]; omega), List.getElem?_take, if_pos hj]
  · rw [List.getElem?_append_right (by rw [List.length_take]; omega), List.getElem?_append_right (by rw [List.length_take, List.length_take]; omega), List.getElem?_drop]
    congr 1
    rw [List.length_take, List.length_take]; omega
theorem prt_congr {xs ys : List Nat} {s : Nat} (h : ∀ j, s * 512 ≤ j → j < (s + 1) * 512 → xs[j]? = ys[j]?) : prt xs s = prt ys s := by
  apply List.ext_getElem?
  intro j
  unfold prt
  rw [List.getElem?_take, List.getElem?_take, List.getElem?_drop, List.getElem?_drop]
  split
  · exact h _ (by omega) (by omega)
  · rfl
/-- does an operation reach a sector? -/
def Opv.meets (p : Opv) (s : Nat) : Bool := p.k == 4 || (decide (0 < p.len) && (decide (p.off < ((s : Int) + 1) * 512) && decide ((s : Int) * 512 < p.off + p.len)))
theorem meets_iff {p : Opv} {n s : Nat} (hM : p.May n) (hs : s < secs n) : p.meets s = true ↔ rlo p.k p.off.toNat p.len.toNat ≤ s ∧ s < rhi n p.k p.off.toNat p.len.toNat := by
  have h1 := hM.off0; have h2 := hM.len0; have h3 := hM.lenn
  unfold Opv.meets rlo rhi
  by_cases hk : p.k = 4
  · rw [if_pos hk, if_pos hk]
    simp [hk, hs]
  · rw [if_neg hk, if_neg hk]
    have e1 : (p.k == 4) = false := by rw [beq_eq_false_iff_ne]; exact hk
    rw [e1, Bool.false_or, Bool.and_eq_true, Bool.and_eq_true, decide_eq_true_iff, decide_eq_true_iff, decide_eq_true_iff]
    obtain ⟨off, ho⟩ := Int.eq_ofNat_of_zero_le h1
    obtain ⟨m, hm⟩ := Int.eq_ofNat_of_zero_le h2
    rw [ho, hm]
    simp only [Int.toNat_natCast]
    by_cases h0 : m = 0
    · rw [if_pos h0, if_pos h0]; omega
    · rw [if_neg h0, if_neg h0]; omega
theorem eff_prt {p : Opv} {n s : Nat} {bs ds : List Nat} (hM : p.May n) (hn : bs.length = n) (hd : ds.length = p.n) (h : p.meets s = false) : prt (p.eff bs ds) s = prt bs s := by
  have h1 := hM.off0; have h2 := hM.len0; have h3 := hM.lenn; have h4 := hM.da
  unfold Opv.meets at h
  rw [Bool.or_eq_false_iff] at h
  have h5 : 0 < p.len → p.off < ((s : Int) + 1) * 512 → ¬ (s : Int) * 512 < p.off + p.len := fun a b c => by
    have h6 := h.2
    rw [decide_eq_true a, decide_eq_true b, decide_eq_true c] at h6
    cases h6
  obtain ⟨off, ho⟩ := Int.eq_ofNat_of_zero_le h1
  obtain ⟨m, hm⟩ := Int.eq_ofNat_of_zero_le h2
  rw [ho, hm] at h5 h3
  have h6 : ∀ j, s * 512 ≤ j → j < (s + 1) * 512 → j < off ∨ off + m ≤ j := fun j ha hb => by
    by_cases h0 : m = 0
    · omega
    · have := h5 (by omega)
      omega
  unfold Opv.eff
  rw [ho, hm]
  simp only [Int.toNat_natCast]
  by_cases hk2 : p.k = 2
  · rw [if_pos hk2]
    rw [if_pos (.inl hk2), hm] at h4
    exact prt_congr fun j ha hb => laidTo_get (by omega) (by omega) (h6 j ha hb)
  · rw [if_neg hk2]
    by_cases hk3 : p.k = 3
    · rw [if_pos hk3]
      exact prt_congr fun j ha hb => laidTo_get (by omega) (by simp) (h6 j ha hb)
    · rw [if_neg hk3]
/-- is place i of the order one that makes a sector safe? -/
def hitAt (l : List Opv) (ord : List Int) (s i : Nat) : Bool := match ord[i]? with
  | some z => (match l[z.toNat]? with
    | some p => p.sy && p.meets s
    | none => false)
  | none => false
/-- how many operations must be there -/
def flr (l : List Opv) (ord : List Int) (s : Nat) : Nat → Nat
  | 0 => 0
  | i + 1 => if hitAt l ord s i then i + 1 else flr l ord s i
theorem flr_le (l : List Opv) (ord : List Int) (s : Nat) : ∀ i, flr l ord s i ≤ i
  | 0 => Nat.le_refl _
  | i + 1 => by
    unfold flr
    split
    · exact Nat.le_refl _
    · exact Nat.le_succ_of_le (flr_le l ord s i)
theorem hitAt_goes {l : List Opv} {dss : List (List Nat)} {ord : List Int} {bs ds : List Nat} {i k : Nat} {p : Opv} (h : Goes l dss ord bs i k p ds) (s : Nat) : hitAt l ord s i = (p.sy && p.meets s) := by
  unfold hitAt
  rw [h.1]
  show (match l[k]? with | some p => p.sy && p.meets s | none => false) = _
  rw [h.2.2.1]
/-- a sector may be so: it was so at some moment since it was safe -/
def Okay (l : List Opv) (dss : List (List Nat)) (ord : List Int) (first after : List Nat) (s i : Nat) : Prop := ∃ j, flr l ord s i ≤ j ∧ j ≤ i ∧ ∃ bs, FolR l dss ord first j bs ∧ prt bs s = prt after s
/-- of each sector whether it may be so -/
structure Mays (l : List Opv) (dss : List (List Nat)) (ord : List Int) (first after : List Nat) (S i : Nat) (may : List Bool) : Prop where
  len : may.length = S
  iff : ∀ s b, may[s]? = some b → (b = true ↔ Okay l dss ord first after s i)
theorem Mays.start (l : List Opv) (dss : List (List Nat)) (ord : List Int) (first after : List Nat) (S : Nat) : Mays l dss ord first after S 0 (may0 S first after) where
  len := may0_len _ _ _
  iff s b h := by
    have hs : s < S := by have := (List.getElem?_eq_some_iff.1 h).1; rwa [may0_len] at this
    rw [may0_get hs] at h
    cases h
    unfold mayF
    rw [decide_eq_true_iff]
    constructor
    · intro h; exact ⟨0, Nat.le_refl _, Nat.le_refl _, first, .nil, h⟩
    · rintro ⟨j, _, h2, bs, h3, h4⟩
      obtain rfl : j = 0 := by omega
      have e := FolR.zero h3
      subst e; exact h4
theorem FolR.blen {l : List Opv} {dss : List (List Nat)} {ord : List Int} {first : List Nat} {n : Nat} (hn : first.length = n) (hm : ∀ (k : Nat) (p : Opv), l[k]? = some p → p.may n = true) (hd : ∀ (k : Nat) (p : Opv) (ds : List Nat), l[k]? = some p → dss[k]? = some ds → ds.length = p.n) : ∀ {i : Nat} {bs : List Nat}, FolR l dss ord first i bs → bs.length = n
  | 0, _, h => by rw [FolR.zero h]; exact hn
  | i + 1, _, h => by
    obtain ⟨k, bs, ds, p, hf, hg, e⟩ := FolR.inv h
    subst e
    exact eff_len (hm _ _ hg.2.2.1) (FolR.blen hn hm hd hf) (hd _ _ _ hg.2.2.1 hg.2.2.2.1)
theorem Mays.step {l : List Opv} {dss : List (List Nat)} {ord : List Int} {first after : List Nat} {n i k : Nat} {may : List Bool} {bs ds : List Nat} {p : Opv} (h : Mays l dss ord first after (secs n) i may) (hf : FolR l dss ord first i bs) (hg : Goes l dss ord bs i k p ds) (hM : p.May n) (hn : bs.length = n) (hd : ds.length = p.n) :
    Mays l dss ord first after (secs n) (i + 1) (updM may (rlo p.k p.off.toNat p.len.toNat) (rhi n p.k p.off.toNat p.len.toNat) (seeF may p.sy (p.eff bs ds) after)) where
  len := by rw [updM_len, h.len]
  iff s b hb := by
    have hs : s < secs n := by have := (List.getElem?_eq_some_iff.1 hb).1; rw [updM_len, h.len] at this; exact this
    have hsl : s < may.length := by rw [h.len]; exact hs
    obtain ⟨c, hc⟩ : ∃ c, may[s]? = some c := ⟨_, List.getElem?_eq_getElem hsl⟩
    have hcd : may.getD s false = c := by rw [List.getD_eq_getElem?_getD, hc]; rfl
    have ih := h.iff s c hc
    rw [updM_get, if_pos hsl, hcd] at hb
    have hb := Option.some.inj hb
    have hit := hitAt_goes hg s
    have hfl := flr_le l ord s i
    have hnew : FolR l dss ord first (i + 1) (p.eff bs ds) := .step hf hg
    have hlast : ∀ {bs2}, FolR l dss ord first (i + 1) bs2 → bs2 = p.eff bs ds := fun h2 => FolR.det h2 hnew
    have hme := meets_iff hM hs
    cases hmt : p.meets s with
    | true =>
      rw [if_pos (hme.1 hmt)] at hb
      unfold seeF at hb
      rw [hcd] at hb
      rw [← hb]
      cases hsy : p.sy with
      | true =>
        have e1 : flr l ord s (i + 1) = i + 1 := by unfold flr; rw [hit, hsy, hmt]; rfl
        simp only [Bool.not_true, Bool.and_false, Bool.false_or, decide_eq_true_iff]
        constructor
        · intro h2; exact ⟨i + 1, by omega, Nat.le_refl _, _, hnew, h2⟩
        · rintro ⟨j, h2, h3, bs2, h4, h5⟩
          obtain rfl : j = i + 1 := by omega
          rw [hlast h4] at h5; exact h5
      | false =>
        have e1 : flr l ord s (i + 1) = flr l ord s i := by
          show (if hitAt l ord s i then i + 1 else flr l ord s i) = _
          rw [hit, hsy]; rfl
        simp only [Bool.not_false, Bool.and_true, Bool.or_eq_true, decide_eq_true_iff]
        constructor
        · rintro (h2 | h2)
          · obtain ⟨j, h3, h4, h5⟩ := ih.1 h2
            exact ⟨j, by omega, by omega, h5⟩
          · exact ⟨i + 1, by omega, Nat.le_refl _, _, hnew, h2⟩
        · rintro ⟨j, h2, h3, bs2, h4, h5⟩
          rcases Nat.lt_or_ge i j with h6 | h6
          · obtain rfl : j = i + 1 := by omega
            right; rw [hlast h4] at h5; exact h5
          · left; exact ih.2 ⟨j, by omega, h6, bs2, h4, h5⟩
    | false =>
      have hno : ¬ (rlo p.k p.off.toNat p.len.toNat ≤ s ∧ s < rhi n p.k p.off.toNat p.len.toNat) := fun h2 => by rw [hme.2 h2] at hmt; cases hmt
      rw [if_neg hno] at hb
      rw [← hb]
      have e1 : flr l ord s (i + 1) = flr l ord s i := by
        show (if hitAt l ord s i then i + 1 else flr l ord s i) = _
        rw [hit, hmt, Bool.and_false]; rfl
      have hpr := eff_prt (s := s) hM hn hd hmt
      constructor
      · intro h2
        obtain ⟨j, h3, h4, h5⟩ := ih.1 h2
        exact ⟨j, by omega, by omega, h5⟩
      · rintro ⟨j, h2, h3, bs2, h4, h5⟩
        rcases Nat.lt_or_ge i j with h6 | h6
        · obtain rfl : j = i + 1 := by omega
          rw [hlast h4, hpr] at h5
          exact ih.2 ⟨i, hfl, Nat.le_refl _, bs, hf, h5⟩
        · exact ih.2 ⟨j, by omega, h6, bs2, h4, h5⟩
/-- an order that is followed to its end -/
def Follows (l : List Opv) (dss : List (List Nat)) (ord : List Int) (first : List Nat) : Prop := ∃ bs, FolR l dss ord first ord.length bs ∧ Whl l ord l.length
/-- what Survives answers -/
def SvOut (l : List Opv) (dss : List (List Nat)) (ord : List Int) (first after : List Nat) (n s : Nat) (ok : Bool) (en : Nat) : Prop :=
  (wrg n l ≠ 0 ∧ s = 0 ∧ ok = false ∧ en = wrg n l) ∨
  (wrg n l = 0 ∧ (after.length ≠ n ∨ ¬ Follows l dss ord first) ∧ s = 0 ∧ ok = false ∧ en = 172) ∨
  (wrg n l = 0 ∧ after.length = n ∧ Follows l dss ord first ∧ en = 0 ∧ ok = false ∧ s < secs n ∧ ¬ Okay l dss ord first after s ord.length ∧ ∀ j, j < s → Okay l dss ord first after j ord.length) ∨
  (wrg n l = 0 ∧ after.length = n ∧ Follows l dss ord first ∧ en = 0 ∧ ok = true ∧ s = 0 ∧ ∀ j, j < secs n → Okay l dss ord first after j ord.length)
def SvEnd (l : List Opv) (dss : List (List Nat)) (ord : List Int) (first after : List Nat) (n : Nat) (w : World) (e : Ending) (w' : World) : Prop :=
  ∃ (s : Nat) (ok : Bool) (en : Nat), e = .returned (.tuple #[.int .i64 (s : Int), .bool ok, .int .i64 (en : Int)]) ∧ SvOut l dss ord first after n s ok en ∧ Below w.heap.size w w'
theorem SvEnd.mk {l : List Opv} {dss : List (List Nat)} {ord : List Int} {first after : List Nat} {n : Nat} {w w' : World} {e : Ending} (s : Nat) (ok : Bool) (en : Nat) (h1 : e = .returned (.tuple #[.int .i64 (s : Int), .bool ok, .int .i64 (en : Int)])) (h2 : SvOut l dss ord first after n s ok en) (h3 : Below w.heap.size w w') : SvEnd l dss ord first after n w e w' := ⟨s, ok, en, h1, h2, h3⟩
theorem SvOut.det {l : List Opv} {dss : List (List Nat)} {ord : List Int} {first after : List Nat} {n s s' : Nat} {ok ok' : Bool} {en en' : Nat} (h : SvOut l dss ord first after n s ok en) (h' : SvOut l dss ord first after n s' ok' en') : s = s' ∧ ok = ok' ∧ en = en' := by
  rcases h with ⟨a1, a2, a3, a4⟩ | ⟨a1, a2, a3, a4, a5⟩ | ⟨a1, a2, a3, a4, a5, a6, a7, a8⟩ | ⟨a1, a2, a3, a4, a5, a6, a7⟩ <;> rcases h' with ⟨b1, b2, b3, b4⟩ | ⟨b1, b2, b3, b4, b5⟩ | ⟨b1, b2, b3, b4, b5, b6, b7, b8⟩ | ⟨b1, b2, b3, b4, b5, b6, b7⟩
  all_goals first
    | exact absurd b1 a1
    | exact absurd a1 b1
    | (rcases a2 with h | h; exact absurd b2 h; exact absurd b3 h)
    | (rcases b2 with h | h; exact absurd a2 h; exact absurd a3 h)
    | exact absurd (b7 s a6) a7
    | exact absurd (a7 s' b6) b7
    | (have e : s = s' := by
        rcases Nat.lt_trichotomy s s' with e | e | e
        · exact absurd (b8 s e) a7
        · exact e
        · exact absurd (a8 s' e) b7
       exact ⟨e, by rw [a5, b5], by rw [a4, b4]⟩)
    | exact ⟨by rw [a2, b2], by rw [a3, b3], by rw [a4, b4]⟩
    | exact ⟨by rw [a3, b3], by rw [a4, b4], by rw [a5, b5]⟩
    | exact ⟨by rw [a6, b6], by rw [a5, b5], by rw [a4, b4]⟩
end Go.Proofs.Ytjkoambfecmglaa

namespace Go.Proofs.Ytjkoambfecmglaa
open Go.RowKit
set_option linter.unusedVariables false
set_option linter.unusedSimpArgs false
set_option maxRecDepth 100000
theorem Cm.rebase {W : World} {B B' P n ac S mc : Nat} {aa ma : Option Addr} {after : List Nat} {may : List Bool} (h : Cm W B P aa n ac after ma S mc may) (hB : B' ≤ B) (haf : ∀ U, Below B' W U → BRow U aa ac after) : Cm W B' P aa n ac after ma S mc may where
  blk := h.blk
  hP := Nat.le_trans hB h.hP
  row := owns_mono h.row hB
  af := haf
  han := h.han
  hac := h.hac
  hs := h.hs
  hS := h.hS
theorem Cm.kept {W V : World} {B B1 P P2 n ac S mc : Nat} {nb pb : Option Nat} {aa ma : Option Addr} {after : List Nat} {may : List Bool} (h : Cm W B P2 aa n ac after ma S mc may) (hk : Kp3 B1 nb pb P W V) (hBB : B ≤ B1) (hno : ∀ g, g = P2 ∨ (Value.slice ma S mc).ownBlock = some g → some g ≠ nb ∧ some g ≠ pb ∧ g ≠ P) : Cm V B P2 aa n ac after ma S mc may where
  blk := (hk.far P2 (block_lt h.blk) (hno P2 (.inl rfl)).1 (hno P2 (.inl rfl)).2.1 (hno P2 (.inl rfl)).2.2).trans h.blk
  hP := h.hP
  row := owns_same h.row fun g e => hk.far g (owns_in h.row e).2 (hno g (.inr e)).1 (hno g (.inr e)).2.1 (hno g (.inr e)).2.2
  af U hU := h.af U ((hk.below.mono hBB).trans hU)
  han := h.han
  hac := h.hac
  hs := h.hs
  hS := h.hS
/-- what lies in the row is Booleans alone -/
theorem Cm.bools {W : World} {B P n ac S g : Nat} {aa : Option Addr} {after : List Nat} {may : List Bool} (h : Cm W B P aa n ac after (some ⟨g, 0, none⟩) S S may) {j : Nat} {v : Value} (hv : W.cell? ⟨g, j, none⟩ = some v) : ∃ b, v = .bool b := by
  rcases h.row.2 with ⟨h0, _⟩ | ⟨g', cap, cur, h0, _, hg, _, _, hsz, ht⟩
  · cases h0
  · cases h0
    unfold World.cell? at hv
    simp only [hg] at hv
    have h1 : cur.toList[j]? = some v := by simpa using hv
    have h2 := (List.getElem?_eq_some_iff.1 h1).1
    have h3 : j < S := by simp at h2 hsz; omega
    have h4 : (may.map Value.bool)[j]? = some v := by
      rw [← ht, List.getElem?_take, if_pos (by omega)]; exact h1
    rw [List.getElem?_map] at h4
    cases hm : may[j]? with
    | none => rw [hm] at h4; cases h4
    | some b => rw [hm] at h4; cases h4; exact ⟨b, rfl⟩
theorem Wm.apart {W V : World} {B P m oc n nc pc dc g : Nat} {oa na pa wa : Option Addr} {bs : List Nat} {pl : List Bool} {ow : List Nat} (h : Wm W B P oa m oc na n nc bs pa pc pl wa dc ow) (hg : W.grownBy V (some g)) (h1 : P ≠ g) (h2 : (Value.slice na n nc).ownBlock ≠ some g) (h3 : (Value.slice pa m pc).ownBlock ≠ some g) (h4 : ∀ j v, W.cell? ⟨g, j, none⟩ = some v → ∃ b, v = .bool b) : Wm V B P oa m oc na n nc bs pa pc pl wa dc ow where
  blk := (hg.block P (block_lt h.blk) (fun e => h1 (Option.some.inj e))).trans h.blk
  hP := h.hP
  now := owns_same h.now fun x e => hg.block x (owns_in h.now e).2 (fun e2 => h2 (by rw [e, e2]))
  bsn := h.bsn
  blt := h.blt
  pld := owns_same h.pld fun x e => hg.block x (owns_in h.pld e).2 (fun e2 => h3 (by rw [e, e2]))
  owd := ⟨fun hne => by
    obtain ⟨b, off, e, hc⟩ := h.owd.at_ hne
    refine ⟨b, off, e, fun k hk => ?_⟩
    have h5 := hc k hk
    refine hg.cell h5 (fun e2 => ?_)
    have e3 : b = g := Option.some.inj e2
    subst e3
    obtain ⟨x, hx⟩ := h4 _ _ h5
    cases hx⟩
  odc := h.odc
  apN := h.apN
  apP := h.apP
  apNP := h.apNP
  apW a e := by
    obtain ⟨q1, q2, q3, q4⟩ := h.apW a e
    exact ⟨q1, q2, q3, Nat.lt_of_lt_of_le q4 hg.size⟩
  apO := h.apO
/-- the bytes of a walk, where a block that is none of its own changes -/
theorem Wm.nowFar {W : World} {B P m oc n nc pc dc g : Nat} {oa na pa wa : Option Addr} {bs : List Nat} {pl : List Bool} {ow : List Nat} (h : Wm W B P oa m oc na n nc bs pa pc pl wa dc ow) (hns : n ≤ 4096) (h2 : (Value.slice na n nc).ownBlock ≠ some g) : ∀ U, W.grownBy U (some g) → BRow U na nc bs := fun U hU =>
  brow_own (owns_far h.now hU (fun x e e2 => h2 (by rw [e, e2]))) h.bsn h.blt (by omega)
set_option maxHeartbeats 16000000 in
/-- the program's Survives -/
theorem survives_any (fa oa za aa : Option Addr) (n fc m oc d zc an ac : Nat) (first after : List Nat) (l : List Opv) (dss : List (List Nat)) (ord : List Int) (w : World) (hb : BRow w fa fc first) (hn : first.length = n) (hfc : n ≤ fc) (h : OpsD w oa l dss) (hm : l.length = m) (hs : m ≤ 1099511627776) (hz : ZRow w za ord) (hd : ord.length = d) (hds : d ≤ 1099511627776) (ha : BRow w aa ac after) (han : after.length = an) (hac : an ≤ ac) :
    Calls Try.prog 19 #[.slice fa n fc, .slice oa m oc, .slice za d zc, .slice aa an ac] w (SvEnd l dss ord first after n w) := by
  have HRf : Hid _ := refused_any fa oa n fc m oc l w h.ops hm hs
  have HD : Hid (BRow w fa fc first ∧ first.length = n ∧ OpsD w oa l dss ∧ l.length = m ∧ ZRow w za ord ∧ ord.length = d) := ⟨hb, hn, h, hm, hz, hd⟩
  have HM : Hid (m ≤ 1099511627776 ∧ BRow w aa ac after ∧ after.length = an ∧ an ≤ ac ∧ n ≤ fc) := ⟨hs, ha, han, hac, hfc⟩
  clear hb hn h hm hz hd ha han hac hfc
  go_enter Try.func19, Try.ntmps19
  go_wp2_with fail
  refine Calls.mono HRf.out ?_
  rintro e W0 ⟨rfl, hb0⟩
  have HB0 : Hid (Below w.heap.size w W0) := hb0
  clear hb0 HRf
  by_cases hw : wrg n l = 0
  · have HWr : Hid (wrg n l = 0) := hw
    have hns : n ≤ 4096 := (wrg_zero hw).1
    have hw' : ((wrg n l : Nat) : Int) = 0 := by rw [hw]; rfl
    rw [hw']
    by_cases hal : an = n
    · subst hal
      have HBe : Hid _ := begin_any fa oa an fc m oc first l W0 (HD.out.1.later HB0.out) HD.out.2.1 (HD.out.2.2.1.ops.later HB0.out) HD.out.2.2.2.1 HM.out.1 hns
      clear hw hw'
      have n7 : ((an : Int) != (an : Int)) = false := by simp
      go_wp2_with fail
      refine Calls.mono HBe.out ?_
      rintro e W1 ⟨P, na, nc, pa, pc, wa, dc, ow, rfl, hb1, hwm, hws⟩
      have HS1 : Hid (Below w.heap.size w W1 ∧ Wm W1 (W0.heap.size + 1) P oa m oc na an nc first pa pc (List.replicate m false) wa dc ow ∧ WkS l [] (List.replicate m false) ow) := ⟨HB0.out.trans (hb1.mono HB0.out.size), hwm, hws⟩
      have HAp : Hid (P < W1.heap.size ∧ (∀ x, (Value.slice na an nc).ownBlock = some x → x < W1.heap.size) ∧ ∀ x, (Value.slice pa m pc).ownBlock = some x → x < W1.heap.size) := ⟨block_lt hwm.blk, fun x e => (owns_in hwm.now e).2, fun x e => (owns_in hwm.pld e).2⟩
      have HCw : Hid _ := compareWith_any aa fa an ac fc after first W1 (HM.out.2.1.later HS1.out.1) HM.out.2.2.1 HM.out.2.2.2.1 (HD.out.1.later HS1.out.1) HD.out.2.1 HM.out.2.2.2.2 hns
      clear hb1 hwm hws HBe
      go_wp2_with fail
      refine Calls.mono HCw.out ?_
      rintro e W2 ⟨S, rfl, hcm, hb2⟩
      have HS2 : Hid (Below w.heap.size w W2 ∧ Wm W2 (W0.heap.size + 1) P oa m oc na an nc first pa pc (List.replicate m false) wa dc ow ∧ Cm W2 w.heap.size (W1.heap.size + 1) aa an ac after (some ⟨W1.heap.size, 0, none⟩) S S (may0 S first after)) := by
        have h1 : Below w.heap.size w W2 := HS1.out.1.trans (hb2.mono HS1.out.1.size)
        exact ⟨h1, HS1.out.2.1.later hb2, hcm.rebase HS1.out.1.size fun U hU => HM.out.2.1.later (h1.trans hU)⟩
      have hSn : secs an = S := hcm.hS
      clear hcm hb2 HCw
      go_wp2_with fail
      go_loopw [37] (fun xv wr => ∃ (i : Nat) (bs : List Nat) (pl : List Bool) (wa : Option Addr) (dc : Nat) (ow : List Nat) (may : List Bool), i ≤ d ∧ xv = .int .i64 (i : Int) ∧ Hid (Below w.heap.size w wr ∧ Wm wr (W0.heap.size + 1) P oa m oc na an nc bs pa pc pl wa dc ow ∧ WkS l (ord.take i) pl ow ∧ HdN (ord.take i) ow ∧ FolR l dss ord first i bs ∧ Cm wr w.heap.size (W1.heap.size + 1) aa an ac after (some ⟨W1.heap.size, 0, none⟩) S S may ∧ Mays l dss ord first after (secs an) i may)) (fun xv _ => d - (intOf xv).toNat)
      case atStart =>
        refine ⟨0, first, List.replicate m false, wa, dc, ow, may0 S first after, Nat.zero_le _, rfl, HS2.out.1, HS2.out.2.1, HS1.out.2.2, fun _ _ _ => by simp, .nil, HS2.out.2.2, ?_⟩
        rw [hSn]; exact Mays.start _ _ _ _ _ _
      case round =>
        obtain ⟨i, bs, pl, wa, dc, ow, may, hi, rfl, HB⟩ := hrel
        have hBw : W0.heap.size + 1 ≤ wr.heap.size := Nat.le_trans HB.out.2.1.hP (Nat.le_of_lt (block_lt HB.out.2.1.blk))
        by_cases hlt : i < d
        · have n9 : decide ((i : Int) < (d : Int)) = true := decide_eq_true (by omega)
          have ii0 : (0 : Int) ≤ (i : Int) := by omega
          have ii9 : (i : Int) < (d : Int) := by omega
          have hil : i < ord.length := by rw [HD.out.2.2.2.2.2]; exact hlt
          obtain ⟨zb, zo, e0, hc⟩ := HD.out.2.2.2.2.1.at_ (by rintro rfl; simp at hil)
          subst e0
          obtain ⟨q, hq⟩ : ∃ q, ord[i] = q := ⟨_, rfl⟩
          have HQ : Hid (ord[i]? = some q) := by show _ = _; rw [List.getElem?_eq_getElem hil, hq]
          have cq : wr.cell? ⟨zb, zo + i, none⟩ = some (.int .i64 q) := by rw [← hq]; exact cell_later HB.out.1 (hc i hil)
          have HT : Hid (ord.take (i + 1) = ord.take i ++ [q]) := by show _ = _; rw [List.take_succ_eq_append_getElem hil, hq]
          have HSt : Hid _ := step_any3 HB.out.2.1 HB.out.2.2.1 HB.out.2.2.2.1 (HD.out.2.2.1.later HB.out.1) HD.out.2.2.2.1 hns (wrg_zero HWr.out).2 hBw q
          clear hc hq
          go_wp2_with fail
          refine Calls.mono HSt.out ?_
          rintro e W3 ⟨r, rfl, hk3, hno, hyes⟩
          have HB3 : Hid (Below w.heap.size w W3) := HB.out.1.trans (hk3.below.mono (Nat.le_succ_of_le HB0.out.size))
          have HC3 : Hid (Cm W3 w.heap.size (W1.heap.size + 1) aa an ac after (some ⟨W1.heap.size, 0, none⟩) S S may) := HB.out.2.2.2.2.2.1.kept hk3 (Nat.le_succ_of_le HB0.out.size) (fun g hg => by
            have hgl : W1.heap.size ≤ g := by
              rcases hg with rfl | hg
              · omega
              · have : W1.heap.size = g := Option.some.inj hg
                omega
            have h1 := HAp.out.1
            refine ⟨fun e => ?_, fun e => ?_, by omega⟩
            · have := HAp.out.2.1 g e.symm; omega
            · have := HAp.out.2.2 g e.symm; omega)
          clear hk3 HSt
          cases r with
          | false =>
            have HF : Hid (¬ Follows l dss ord first) := by
              rintro ⟨bsF, hf, _⟩
              obtain ⟨bs0, k, p, ds, q1, q2⟩ := hf.goes hil
              have e := FolR.det q1 HB.out.2.2.2.2.1
              subst e
              exact hno rfl k p ds (q2.nx HQ.out)
            clear hno hyes
            go_wp2
            go_ret3
            exact SvEnd.mk 0 false 172 rfl (.inr (.inl ⟨HWr.out, .inr HF.out, rfl, rfl, rfl⟩)) HB3.out
          | true =>
            obtain ⟨k, p, ds, wa', dc', ow', hnx, hwm, hws, hhd⟩ := hyes rfl
            have HY : Hid (Wm W3 (W0.heap.size + 1) P oa m oc na an nc (p.eff bs ds) pa pc (pl.set k true) wa' dc' ow' ∧ WkS l (ord.take (i + 1)) (pl.set k true) ow' ∧ HdN (ord.take (i + 1)) ow' ∧ Goes l dss ord bs i k p ds) := by
              refine ⟨hwm, ?_, ?_, hnx.goes HQ.out⟩
              · rw [HT.out]; exact hws
              · rw [HT.out]; exact hhd
            have hqk : q = (k : Int) := hnx.1
            have hlk : l[k]? = some p := hnx.2.2.1
            have hdk : dss[k]? = some ds := hnx.2.2.2.1
            subst hqk
            have hkm : k < m := by rw [← HD.out.2.2.2.1]; exact (List.getElem?_eq_some_iff.1 hlk).1
            have HMay : Hid (p.May an) := Opv.may_of ((wrg_zero HWr.out).2 k p hlk)
            have HDs : Hid (ds.length = p.n) := (HD.out.2.2.1.row k p ds hlk hdk).2
            have HMs : Hid (Mays l dss ord first after (secs an) (i + 1) (updM may (rlo p.k p.off.toNat p.len.toNat) (rhi an p.k p.off.toNat p.len.toNat) (seeF may p.sy (p.eff bs ds) after))) := HB.out.2.2.2.2.2.2.step HB.out.2.2.2.2.1 HY.out.2.2.2 HMay.out HB.out.2.1.bsn HDs.out
            have HDr : Hid (Below W3.heap.size W3 W3.drew) := ⟨rfl, rfl, rfl, Nat.le_refl _, fun _ _ => rfl⟩
            have HgN : Hid (P ≠ W1.heap.size ∧ (Value.slice na an nc).ownBlock ≠ some W1.heap.size ∧ (Value.slice pa m pc).ownBlock ≠ some W1.heap.size) := by
              refine ⟨by have := HAp.out.1; omega, fun e => ?_, fun e => ?_⟩
              · have := HAp.out.2.1 _ e; omega
              · have := HAp.out.2.2 _ e; omega
            have HSee : Hid (Calls Try.prog 36 #[.pointer (some ⟨W1.heap.size + 1, 0, none⟩), .slice na an nc, .agg #[.int .i64 p.k, .int .i64 p.fr, .int .i64 p.to_, .int .i64 p.off, .int .i64 p.len, .slice p.da p.n p.dc, .bool p.sy]] W3.drew fun e w' => e = .returned (.tuple #[]) ∧ Cm w' w.heap.size (W1.heap.size + 1) aa an ac after (some ⟨W1.heap.size, 0, none⟩) S S (updM may (rlo p.k p.off.toNat p.len.toNat) (rhi an p.k p.off.toNat p.len.toNat) (seeF may p.sy (p.eff bs ds) after)) ∧ W3.drew.grownBy w' (some W1.heap.size)) := by
              have hM := HMay.out
              obtain ⟨off, ho⟩ := Int.eq_ofNat_of_zero_le hM.off0
              obtain ⟨mm, hmm⟩ := Int.eq_ofNat_of_zero_le hM.len0
              have h3 := hM.lenn
              rw [ho, hmm]
              simp only [Int.toNat_natCast]
              exact see_any na p.da an nc p.n p.dc off mm p.k p.fr p.to_ p.sy (p.eff bs ds) after aa w.heap.size (W1.heap.size + 1) ac W1.heap.size S S may W3.drew (by omega) (HC3.out.later HDr.out) ((HY.out.1.later HDr.out).nowFar hns HgN.out.2.1) HY.out.1.bsn HY.out.1.nnc
            obtain ⟨ob, oo, e1, hc⟩ := ops_at (HD.out.2.2.1.ops.later HB3.out) hlk
            subst e1
            have HCc : Hid (∀ U, Below W3.heap.size W3 U → U.cell? ⟨P, 1, none⟩ = some (.slice na an nc) ∧ U.cell? ⟨ob, oo + k * 7, none⟩ = some (.int .i64 p.k) ∧ U.cell? ⟨ob, oo + k * 7 + 1, none⟩ = some (.int .i64 p.fr) ∧ U.cell? ⟨ob, oo + k * 7 + 2, none⟩ = some (.int .i64 p.to_) ∧ U.cell? ⟨ob, oo + k * 7 + 3, none⟩ = some (.int .i64 p.off) ∧ U.cell? ⟨ob, oo + k * 7 + 4, none⟩ = some (.int .i64 p.len) ∧ U.cell? ⟨ob, oo + k * 7 + 5, none⟩ = some (.slice p.da p.n p.dc) ∧ U.cell? ⟨ob, oo + k * 7 + 6, none⟩ = some (.bool p.sy)) := fun U hU =>
              ⟨cell_later hU HY.out.1.c1, cell_later hU (hc 0 _ rfl), cell_later hU (hc 1 _ rfl), cell_later hU (hc 2 _ rfl), cell_later hU (hc 3 _ rfl), cell_later hU (hc 4 _ rfl), cell_later hU (hc 5 _ rfl), cell_later hU (hc 6 _ rfl)⟩
            obtain ⟨c0, c1, c2, c3, c4, c5, c6, c7⟩ := HCc.out W3 (Below.refl _ _)
            have kk0 : (0 : Int) ≤ (k : Int) := by omega
            have kk9 : (k : Int) < (m : Int) := by omega
            clear hno hyes hnx hwm hws hhd hlk hdk hc cq
            go_wp2
            go_region_held3 (fun w' => w'.cell? ⟨P, 1, none⟩ = some (.slice na an nc) ∧ w'.cell? ⟨ob, oo + k * 7, none⟩ = some (.int .i64 p.k) ∧ w'.cell? ⟨ob, oo + k * 7 + 1, none⟩ = some (.int .i64 p.fr) ∧ w'.cell? ⟨ob, oo + k * 7 + 2, none⟩ = some (.int .i64 p.to_) ∧ w'.cell? ⟨ob, oo + k * 7 + 3, none⟩ = some (.int .i64 p.off) ∧ w'.cell? ⟨ob, oo + k * 7 + 4, none⟩ = some (.int .i64 p.len) ∧ w'.cell? ⟨ob, oo + k * 7 + 5, none⟩ = some (.slice p.da p.n p.dc) ∧ w'.cell? ⟨ob, oo + k * 7 + 6, none⟩ = some (.bool p.sy)) (first | exact HX4.out | exact HCc.out _ HDr.out | go_keep) (first | (go_at_call 36; refine Calls.mono HSee.out ?_; rintro e W4 ⟨rfl, hcm4, hg4⟩; have HG4 : Hid (Cm W4 w.heap.size (W1.heap.size + 1) aa an ac after (some ⟨W1.heap.size, 0, none⟩) S S (updM may (rlo p.k p.off.toNat p.len.toNat) (rhi an p.k p.off.toNat p.len.toNat) (seeF may p.sy (p.eff bs ds) after)) ∧ W3.drew.grownBy W4 (some W1.heap.size)) := ⟨hcm4, hg4⟩; clear hcm4 hg4; have HX4 : Hid (W4.cell? ⟨P, 1, none⟩ = some (.slice na an nc) ∧ W4.cell? ⟨ob, oo + k * 7, none⟩ = some (.int .i64 p.k) ∧ W4.cell? ⟨ob, oo + k * 7 + 1, none⟩ = some (.int .i64 p.fr) ∧ W4.cell? ⟨ob, oo + k * 7 + 2, none⟩ = some (.int .i64 p.to_) ∧ W4.cell? ⟨ob, oo + k * 7 + 3, none⟩ = some (.int .i64 p.off) ∧ W4.cell? ⟨ob, oo + k * 7 + 4, none⟩ = some (.int .i64 p.len) ∧ W4.cell? ⟨ob, oo + k * 7 + 5, none⟩ = some (.slice p.da p.n p.dc) ∧ W4.cell? ⟨ob, oo + k * 7 + 6, none⟩ = some (.bool p.sy)) := (by
              obtain ⟨x0, x1, x2, x3, x4, x5, x6, x7⟩ := HCc.out _ HDr.out
              have hP1 : some P ≠ some W1.heap.size := fun e => HgN.out.1 (Option.some.inj e)
              have hob : ob < W1.heap.size := Nat.lt_of_lt_of_le (HY.out.1.apO (by omega) _ rfl) (Nat.le_of_lt (Nat.lt_of_le_of_lt HS1.out.2.1.hP (block_lt HS1.out.2.1.blk)))
              have hP2 : some ob ≠ some W1.heap.size := fun e => by have := Option.some.inj e; omega
              exact ⟨HG4.out.2.cell x0 hP1, HG4.out.2.cell x1 hP2, HG4.out.2.cell x2 hP2, HG4.out.2.cell x3 hP2, HG4.out.2.cell x4 hP2, HG4.out.2.cell x5 hP2, HG4.out.2.cell x6 hP2, HG4.out.2.cell x7 hP2⟩)))
            have HEnd : Hid (Below w.heap.size w W4 ∧ Wm W4 (W0.heap.size + 1) P (some ⟨ob, oo, none⟩) m oc na an nc (p.eff bs ds) pa pc (pl.set k true) wa' dc' ow' ∧ WkS l (ord.take (i + 1)) (pl.set k true) ow' ∧ HdN (ord.take (i + 1)) ow' ∧ FolR l dss ord first (i + 1) (p.eff bs ds) ∧ Cm W4 w.heap.size (W1.heap.size + 1) aa an ac after (some ⟨W1.heap.size, 0, none⟩) S S (updM may (rlo p.k p.off.toNat p.len.toNat) (rhi an p.k p.off.toNat p.len.toNat) (seeF may p.sy (p.eff bs ds) after)) ∧ Mays l dss ord first after (secs an) (i + 1) (updM may (rlo p.k p.off.toNat p.len.toNat) (rhi an p.k p.off.toNat p.len.toNat) (seeF may p.sy (p.eff bs ds) after))) := by
              refine ⟨?_, (HY.out.1.later HDr.out).apart HG4.out.2 HgN.out.1 HgN.out.2.1 HgN.out.2.2 (fun j v hv => (HC3.out.later HDr.out).bools hv), HY.out.2.1, HY.out.2.2.1, .step HB.out.2.2.2.2.1 HY.out.2.2.2, HG4.out.1, HMs.out⟩
              have h1 : Below w.heap.size w W3.drew := HB3.out.trans (HDr.out.mono HB3.out.size)
              exact h1.grown HG4.out.2 h1.size (fun k e => by have := Option.some.inj e; have := HS1.out.1.size; omega)
            clear c0 c1 c2 c3 c4 c5 c6 c7
            go_wp2
            go_roundw
            case rel => exact ⟨i + 1, p.eff bs ds, pl.set k true, wa', dc', ow', _, by omega, by go_num, HEnd.out⟩
            case measure => simp [intOf]; omega
        · have n9 : decide ((i : Int) < (d : Int)) = false := decide_eq_false (by omega)
          obtain rfl : i = d := by omega
          have HWh : Hid _ := whole_any (W := wr) (P := P) (m := m) (oc := oc) (n := an) (nc := nc) (pc := pc) (d := ow.length) (dc := dc) (oa := oa) (na := na) (pa := pa) (wa := wa) ⟨HB.out.2.1.c0, HB.out.2.1.c1, HB.out.2.1.c2, HB.out.2.1.c3⟩
          have HTk : Hid (ord.take i = ord) := List.take_of_length_le (by rw [HD.out.2.2.2.2.2]; exact Nat.le_refl _)
          have HFl : Hid (FolR l dss ord first ord.length bs) := by
            have := HB.out.2.2.2.2.1
            rwa [← HD.out.2.2.2.2.2] at this
          have HW9 : Hid (Whl l ord l.length ↔ ow = []) := by
            have := HB.out.2.2.1.whole HB.out.2.2.2.1
            rwa [HTk.out] at this
          have HMd : Hid (Mays l dss ord first after (secs an) ord.length may) := by
            have := HB.out.2.2.2.2.2.2
            rwa [← HD.out.2.2.2.2.2] at this
          go_wp2_with fail
          refine Calls.mono HWh.out ?_
          rintro e W3 ⟨rfl, rfl⟩
          clear HWh
          by_cases hw0 : ow.length = 0
          · have e1 : decide (ow.length = 0) = true := decide_eq_true hw0
            have HYW : Hid (Follows l dss ord first) := ⟨bs, HFl.out, HW9.out.2 (List.eq_nil_of_length_eq_zero hw0)⟩
            have HVd : Hid _ := verdict_any HB.out.2.2.2.2.2.1
            rw [e1]
            clear e1 hw0
            go_wp2_with fail
            refine Calls.mono HVd.out ?_
            rintro e W4 ⟨hv, hb4⟩
            have HB4 : Hid (Below w.heap.size w W4) := HB.out.1.trans (hb4.mono HB.out.1.size)
            clear hb4 HVd
            rcases hv with ⟨s, h1, h2, rfl⟩ | ⟨h1, rfl⟩
            · have HO : Hid (SvOut l dss ord first after an s false 0) := by
                refine .inr (.inr (.inl ⟨HWr.out, HM.out.2.2.1, HYW.out, rfl, rfl, ?_, fun h => ?_, fun j hj => ?_⟩))
                · have := (List.getElem?_eq_some_iff.1 h1).1; rw [HMd.out.len] at this; exact this
                · cases (HMd.out.iff s false h1).2 h
                · exact (HMd.out.iff j true (h2 j hj)).1 rfl
              clear h1 h2
              go_wp2
              go_ret3
              exact SvEnd.mk s false 0 rfl HO.out HB4.out
            · have HO : Hid (SvOut l dss ord first after an 0 true 0) := by
                refine .inr (.inr (.inr ⟨HWr.out, HM.out.2.2.1, HYW.out, rfl, rfl, rfl, fun j hj => ?_⟩))
                exact (HMd.out.iff j true (h1 j (by rw [HMd.out.len]; exact hj))).1 rfl
              clear h1
              go_wp2
              go_ret3
              exact SvEnd.mk 0 true 0 rfl HO.out HB4.out
          · have e1 : decide (ow.length = 0) = false := decide_eq_false hw0
            have HNW : Hid (¬ Follows l dss ord first) := by
              rintro ⟨bsF, _, h⟩
              exact hw0 (by rw [HW9.out.1 h]; rfl)
            rw [e1]
            clear e1 hw0
            go_wp2
            go_ret3
            exact SvEnd.mk 0 false 172 rfl (.inr (.inl ⟨HWr.out, .inr HNW.out, rfl, rfl, rfl⟩)) HB.out.1
    · have HA : Hid (after.length ≠ n) := by
        show _ ≠ _
        rw [HM.out.2.2.1]; exact hal
      have n7 : ((an : Int) != (n : Int)) = true := by rw [bne_iff_ne]; omega
      have n6 : ((an : Int) == (n : Int)) = false := by rw [beq_eq_false_iff_ne]; omega
      clear hw hw' hal
      go_wp2_with fail
      go_ret3
      exact SvEnd.mk 0 false 172 rfl (.inr (.inl ⟨HWr.out, .inl HA.out, rfl, rfl, rfl⟩)) HB0.out
  · have HWr : Hid (wrg n l ≠ 0) := hw
    obtain ⟨x, hx⟩ : ∃ x, wrg n l = x := ⟨_, rfl⟩
    rw [hx]
    have n8 : ((x : Int) == 0) = false := by rw [beq_eq_false_iff_ne]; omega
    have n7 : ((x : Int) != 0) = true := by rw [bne_iff_ne]; omega
    have HXx : Hid (wrg n l = x) := hx
    clear hx hw
    go_wp2_with fail
    go_ret3
    exact SvEnd.mk 0 false x rfl (.inl ⟨HWr.out, rfl, rfl, HXx.out.symm⟩) HB0.out
end Go.Proofs.Ytjkoambfecmglaa

namespace Go.Proofs.Ytjkoambfecmglaa
open Go.RowKit
set_option linter.unusedVariables false
set_option linter.unusedSimpArgs false
set_option maxRecDepth 100000
set_option maxHeartbeats 4000000 in
/-- the document's part -/
theorem rPart_any (na : Option Addr) (n nc k : Nat) (bs : List Nat) (w : World) (hb : BRow w na nc bs) (hn : bs.length = n) (hnc : n ≤ nc) (hs : n ≤ 4096) (hk : k < secs n) :
    Calls Try.prog 39 #[.slice na n nc, .int .i64 (k : Int)] w fun e w' => ∃ sa m c, e = .returned (.slice sa m c) ∧ w' = w ∧ BRow w sa c (prt bs k) ∧ (prt bs k).length = m := by
  have h0 : k * 512 < n := secs_lt.1 hk
  obtain ⟨lo, hlo⟩ : ∃ lo, k * 512 = lo := ⟨_, rfl⟩
  have HS : Hid (∀ q, min ((k + 1) * 512) n = q → BRow w (Option.map (fun x => x.add lo) na) (nc - lo) (prt bs k) ∧ (prt bs k).length = q - lo) := fun q hq => by
    refine ⟨?_, by rw [prt_len, hn, hq, hlo]⟩
    have := hb.sub lo (q - lo) (nc - lo) (by omega) (by omega) _ (if_neg (by omega)).symm rfl
    rw [← hlo] at this
    rw [prt_take (by rw [hn, hq])] at this
    rw [hlo] at this
    exact this
  have q1 : (k : Int) * 512 = (lo : Int) := by omega
  have q2 : (0 : Int) ≤ (lo : Int) := by omega
  rw [hlo] at h0
  by_cases h9 : (k + 1) * 512 < n
  · obtain ⟨q, hq⟩ : ∃ q, (k + 1) * 512 = q := ⟨_, rfl⟩
    have HR : Hid _ := HS.out q (by omega)
    have q3 : (lo : Int) ≤ (q : Int) := by omega
    have q4 : (q : Int) ≤ (nc : Int) := by omega
    have q5 : (q : Int) < (n : Int) := by omega
    have q6 : (0 : Int) ≤ (q : Int) := by omega
    have q7 : ((k : Int) + 1) * 512 = (q : Int) := by omega
    have q8 : decide ((n : Int) ≤ (q : Int)) = false := decide_eq_false (by omega)
    have q9 : min (n : Int) (q : Int) = (q : Int) := Int.min_eq_right (by omega)
    clear hb hk hq hlo hn h9 HS
    go_enter Try.func39, Try.ntmps39
    go_wp2
    go_ret
    exact ⟨_, q - lo, nc - lo, rfl, rfl, HR.out⟩
  · have HR : Hid _ := HS.out n (by omega)
    obtain ⟨q, hq⟩ : ∃ q, (k + 1) * 512 = q := ⟨_, rfl⟩
    have q3 : (lo : Int) ≤ (n : Int) := by omega
    have q4 : (n : Int) ≤ (nc : Int) := by omega
    have q7 : ((k : Int) + 1) * 512 = (q : Int) := by omega
    have q8 : decide ((n : Int) ≤ (q : Int)) = true := decide_eq_true (by omega)
    have q9 : min (n : Int) (q : Int) = (n : Int) := Int.min_eq_left (by omega)
    have q10 : (n : Int) ≤ (q : Int) := by omega
    have q11 : q ≤ 8192 := by omega
    clear hb hk hq hlo hn h9 HS
    go_enter Try.func39, Try.ntmps39
    go_wp2
    go_ret
    exact ⟨_, n - lo, nc - lo, rfl, rfl, HR.out⟩
/-- every place of an order is an operation's -/
def Ordd (l : List Opv) (ord : List Int) : Prop := ∀ i, i < ord.length → ∃ (k : Nat) (p : Opv), ord[i]? = some (k : Int) ∧ l[k]? = some p
theorem FolR.ordd {l : List Opv} {dss : List (List Nat)} {ord : List Int} {first bs : List Nat} (h : FolR l dss ord first ord.length bs) : Ordd l ord := fun i hi => by
  obtain ⟨bs0, k, p, ds, q1, q2⟩ := h.goes hi
  exact ⟨k, p, q2.1, q2.2.2.1⟩
theorem hitAt_of {l : List Opv} {ord : List Int} {i k : Nat} {p : Opv} (h : ord[i]? = some (k : Int)) (hp : l[k]? = some p) (s : Nat) : hitAt l ord s i = (p.sy && p.meets s) := by
  unfold hitAt
  rw [h]
  show (match l[k]? with | some p => p.sy && p.meets s | none => false) = _
  rw [hp]
theorem flr_yes {l : List Opv} {ord : List Int} {s i : Nat} (h : hitAt l ord s i = true) : flr l ord s (i + 1) = i + 1 := by unfold flr; rw [h]; rfl
theorem flr_no {l : List Opv} {ord : List Int} {s i : Nat} (h : hitAt l ord s i = false) : flr l ord s (i + 1) = flr l ord s i := by
  show (if hitAt l ord s i then i + 1 else flr l ord s i) = _
  rw [h]; rfl
set_option maxHeartbeats 16000000 in
/-- the document's floor -/
theorem rFloor_any (oa za : Option Addr) (n m oc d zc s : Nat) (l : List Opv) (ord : List Int) (w : World) (h : OpsR w oa l) (hm : l.length = m) (hw : wrg n l = 0) (hz : ZRow w za ord) (hd : ord.length = d) (hds : d ≤ 1099511627776) (ho : Ordd l ord) (hs : s < secs n) :
    Calls Try.prog 38 #[.slice oa m oc, .slice za d zc, .int .i64 (s : Int)] w fun e w' => e = .returned (.int .i64 ((flr l ord s d : Nat) : Int)) ∧ Below w.heap.size w w' := by
  have HD : Hid (OpsR w oa l ∧ l.length = m ∧ wrg n l = 0 ∧ ZRow w za ord ∧ ord.length = d ∧ Ordd l ord ∧ s < secs n) := ⟨h, hm, hw, hz, hd, ho, hs⟩
  have hs8 : s ≤ 8 := by
    have h1 := (wrg_zero hw).1
    have h2 := secs_lt.1 hs
    omega
  clear h hm hw hz hd ho hs
  go_enter Try.func38, Try.ntmps38
  go_wp2
  go_loopw [7, 8] (fun kv iv wr => ∃ i : Nat, i ≤ d ∧ kv = .int .i64 ((flr l ord s i : Nat) : Int) ∧ iv = .int .i64 (i : Int) ∧ Hid (Below w.heap.size w wr)) (fun _ iv _ => d - (intOf iv).toNat)
  case atStart => exact ⟨0, Nat.zero_le _, rfl, rfl, Below.refl _ _⟩
  case round =>
    obtain ⟨i, hi, rfl, rfl, HB⟩ := hrel
    by_cases hlt : i < d
    · have n9 : decide ((i : Int) < (d : Int)) = true := decide_eq_true (by omega)
      have ii0 : (0 : Int) ≤ (i : Int) := by omega
      have ii9 : (i : Int) < (d : Int) := by omega
      have HIl : Hid (i < d) := hlt
      have hil : i < ord.length := by rw [HD.out.2.2.2.2.1]; exact hlt
      obtain ⟨k, p, hq, hp⟩ := HD.out.2.2.2.2.2.1 i hil
      obtain ⟨zb, zo, e0, hcz⟩ := HD.out.2.2.2.1.at_ (by rintro rfl; simp at hil)
      subst e0
      have hqe : ord[i] = (k : Int) := (List.getElem?_eq_some_iff.1 hq).2
      have cq : wr.cell? ⟨zb, zo + i, none⟩ = some (.int .i64 (k : Int)) := by rw [← hqe]; exact cell_later HB.out (hcz i hil)
      obtain ⟨ob, oo, e1, hc⟩ := ops_at (HD.out.1.later HB.out) hp
      subst e1
      have hkm : k < m := by rw [← HD.out.2.1]; exact (List.getElem?_eq_some_iff.1 hp).1
      have kk0 : (0 : Int) ≤ (k : Int) := by omega
      have kk9 : (k : Int) < (m : Int) := by omega
      have hM := Opv.may_of ((wrg_zero HD.out.2.2.1).2 k p hp)
      have hns := (wrg_zero HD.out.2.2.1).1
      have HHt : Hid (hitAt l ord s i = (p.sy && p.meets s)) := hitAt_of hq hp s
      obtain ⟨kd, fr, t, off, mm, da, pn, dc, sy⟩ := p
      obtain ⟨off, rfl⟩ := Int.eq_ofNat_of_zero_le hM.off0
      obtain ⟨mm, rfl⟩ := Int.eq_ofNat_of_zero_le hM.len0
      have h3 : (mm : Int) ≤ (n : Int) - (off : Int) := hM.lenn
      have c0 : wr.cell? ⟨ob, oo + k * 7, none⟩ = some (.int .i64 kd) := hc 0 _ rfl
      have c1 : wr.cell? ⟨ob, oo + k * 7 + 1, none⟩ = some (.int .i64 fr) := hc 1 _ rfl
      have c2 : wr.cell? ⟨ob, oo + k * 7 + 2, none⟩ = some (.int .i64 t) := hc 2 _ rfl
      have c3 : wr.cell? ⟨ob, oo + k * 7 + 3, none⟩ = some (.int .i64 (off : Int)) := hc 3 _ rfl
      have c4 : wr.cell? ⟨ob, oo + k * 7 + 4, none⟩ = some (.int .i64 (mm : Int)) := hc 4 _ rfl
      have c5 : wr.cell? ⟨ob, oo + k * 7 + 5, none⟩ = some (.slice da pn dc) := hc 5 _ rfl
      have c6 : wr.cell? ⟨ob, oo + k * 7 + 6, none⟩ = some (.bool sy) := hc 6 _ rfl
      obtain ⟨x, hx⟩ : ∃ x : Nat, (s + 1) * 512 = x := ⟨_, rfl⟩
      obtain ⟨y, hy⟩ : ∃ y : Nat, s * 512 = y := ⟨_, rfl⟩
      obtain ⟨z, hz⟩ : ∃ z : Nat, off + mm = z := ⟨_, rfl⟩
      have q1 : ((s : Int) + 1) * 512 = (x : Int) := by omega
      have q2 : (s : Int) * 512 = (y : Int) := by omega
      have q3 : (off : Int) + (mm : Int) = (z : Int) := by omega
      have q4 : x ≤ 8192 := by omega
      have q5 : y ≤ 8192 := by omega
      have q6 : z ≤ 4096 := by omega
      have q7 : off ≤ 4096 := by omega
      have q8 : mm ≤ 4096 := by omega
      obtain ⟨a, ha⟩ : ∃ a, decide ((0 : Int) < (mm : Int)) = a := ⟨_, rfl⟩
      obtain ⟨b, hb⟩ : ∃ b, decide ((off : Int) < (x : Int)) = b := ⟨_, rfl⟩
      obtain ⟨c, hc9⟩ : ∃ c, decide ((y : Int) < (z : Int)) = c := ⟨_, rfl⟩
      obtain ⟨k4, hk4⟩ : ∃ k4, (kd == 4) = k4 := ⟨_, rfl⟩
      have HHit : Hid (hitAt l ord s i = (sy && (k4 || (a && (b && c))))) := by
        show _ = _
        rw [HHt.out]
        show (sy && (kd == 4 || (decide (0 < (mm : Int)) && (decide ((off : Int) < ((s : Int) + 1) * 512) && decide ((s : Int) * 512 < (off : Int) + (mm : Int)))))) = _
        rw [hk4, q1, q2, q3, ha, hb, hc9]
      have ha2 : decide (0 < mm) = a := by rw [← ha]; simp
      have hb2 : decide (off < x) = b := by rw [← hb]; simp
      have hc2 : decide (y < z) = c := by rw [← hc9]; simp
      have HAl : Hid (Below w.heap.size w (wr.alloc (.cells #[.int .i64 kd, .int .i64 fr, .int .i64 t, .int .i64 (off : Int), .int .i64 (mm : Int), .slice da pn dc, .bool sy] 50))) := HB.out.alloc HB.out.size _
      clear hc hcz hM hp hq hqe hx hy hz h3 hkm hil hlt
      cases a <;> cases b <;> cases c <;> cases sy <;> cases k4
      all_goals
        go_wp2
        go_roundw
        case rel =>
          refine ⟨i + 1, HIl.out, ?_, by go_num, HAl.out⟩
          first
            | (rw [flr_no HHit.out]; done)
            | (rw [flr_no HHit.out])
            | (rw [flr_yes HHit.out]; go_num)
            | (rw [flr_yes HHit.out]; rfl)
        case measure => simp [intOf]; omega
    · have n9 : decide ((i : Int) < (d : Int)) = false := decide_eq_false (by omega)
      obtain rfl : i = d := by omega
      go_wp2
      go_ret
      exact ⟨rfl, HB.out⟩
end Go.Proofs.Ytjkoambfecmglaa

namespace Go.Proofs.Ytjkoambfecmglaa
open Go.RowKit
set_option linter.unusedVariables false
set_option linter.unusedSimpArgs false
set_option maxRecDepth 100000
theorem same_rows {ao bo : Option Addr} {c c' n m : Nat} {l k : List Nat} {w : World} (h : BRow w ao c l) (hl : l.length = n) (h' : BRow w bo c' k) (hk : k.length = m) : Calls Try.prog 13 #[.slice ao n c, .slice bo m c'] w fun e w' => e = .returned (.bool (decide (l = k))) ∧ Below w.heap.size w w' := by
  subst hl hk
  refine (same_any ao bo c c' l k w h h').mono ?_
  rintro e w' ⟨rfl, q, rfl⟩
  exact ⟨rfl, ⟨rfl, rfl, rfl, Nat.le_refl _, fun _ _ => rfl⟩⟩
theorem owns_cap {w : World} {B e n c : Nat} {ao : Option Addr} {xs : List Value} (h : w.ownsRow B e 1 (.slice ao n c) n xs) : n ≤ c := by
  rcases h.2 with ⟨h0, h1⟩ | ⟨_, _, _, hv, _, _, h1, _⟩
  · omega
  · cases hv; exact h1
/-- a copy, with its room -/
theorem copy_room (bo : Option Addr) (cap n : Nat) (bs : List Nat) (w : World) (h : BRow w bo cap bs) (hn : bs.length = n) :
    Calls Try.prog 9 #[.slice bo n cap] w fun e w' => ∃ co cc, e = .returned (.slice co n cc) ∧ BRow w' co cc bs ∧ n ≤ cc ∧ Below w.heap.size w w' :=
  (copy_any bo cap n bs w h hn).mono (by rintro e w' ⟨co, cc, e1, h1, h2, h3⟩; exact ⟨co, cc, e1, h1, owns_cap h2, h3⟩)
/-- was a sector so, at some moment ahead of i, not ahead of its floor? -/
def OkTo (l : List Opv) (dss : List (List Nat)) (ord : List Int) (first after : List Nat) (s f i : Nat) : Prop := ∃ j, f ≤ j ∧ j < i ∧ ∃ bs, FolR l dss ord first j bs ∧ prt bs s = prt after s
theorem OkTo.succ {l : List Opv} {dss : List (List Nat)} {ord : List Int} {first after : List Nat} {s f i : Nat} (h : OkTo l dss ord first after s f i) : OkTo l dss ord first after s f (i + 1) := by
  obtain ⟨j, h1, h2, h3⟩ := h
  exact ⟨j, h1, by omega, h3⟩
def OkIs (l : List Opv) (dss : List (List Nat)) (ord : List Int) (first after : List Nat) (s f i : Nat) (ok : Bool) : Prop := ok = true ↔ OkTo l dss ord first after s f i
theorem OkIs.of {l : List Opv} {dss : List (List Nat)} {ord : List Int} {first after : List Nat} {s f i : Nat} {ok : Bool} (h : ok = true ↔ OkTo l dss ord first after s f i) : OkIs l dss ord first after s f i ok := h
theorem OkIs.out {l : List Opv} {dss : List (List Nat)} {ord : List Int} {first after : List Nat} {s f i : Nat} {ok : Bool} (h : OkIs l dss ord first after s f i ok) : ok = true ↔ OkTo l dss ord first after s f i := h
theorem OkTo.next {l : List Opv} {dss : List (List Nat)} {ord : List Int} {first after bs : List Nat} {s f i : Nat} {ok : Bool} (h : ok = true ↔ OkTo l dss ord first after s f i) (hf : FolR l dss ord first i bs) (hi : f ≤ i) : (ok || decide (prt bs s = prt after s)) = true ↔ OkTo l dss ord first after s f (i + 1) := by
  rw [Bool.or_eq_true, decide_eq_true_iff]
  constructor
  · rintro (h1 | h1)
    · exact (h.1 h1).succ
    · exact ⟨i, hi, Nat.lt_succ_self _, bs, hf, h1⟩
  · rintro ⟨j, h1, h2, bs2, h3, h4⟩
    rcases Nat.lt_or_ge j i with h5 | h5
    · exact .inl (h.2 ⟨j, h1, h5, bs2, h3, h4⟩)
    · obtain rfl : j = i := by omega
      rw [FolR.det h3 hf] at h4
      exact .inr h4
theorem OkTo.skip {l : List Opv} {dss : List (List Nat)} {ord : List Int} {first after : List Nat} {s f i : Nat} {ok : Bool} (h : ok = true ↔ OkTo l dss ord first after s f i) (hi : i < f) : ok = true ↔ OkTo l dss ord first after s f (i + 1) := by
  rw [h]
  constructor
  · exact OkTo.succ
  · rintro ⟨j, h1, h2, h3⟩
    omega
set_option maxHeartbeats 32000000 in
/-- the document's Survives -/
theorem rSurvives_any (fa oa za aa : Option Addr) (n fc m oc d zc an ac : Nat) (first after : List Nat) (l : List Opv) (dss : List (List Nat)) (ord : List Int) (w : World) (hb : BRow w fa fc first) (hn : first.length = n) (h : OpsD w oa l dss) (hm : l.length = m) (hs : m ≤ 1099511627776) (hz : ZRow w za ord) (hd : ord.length = d) (hds : d ≤ 1099511627776) (hzc : d ≤ zc) (ha : BRow w aa ac after) (han : after.length = an) (hac : an ≤ ac) :
    Calls Try.prog 20 #[.slice fa n fc, .slice oa m oc, .slice za d zc, .slice aa an ac] w (SvEnd l dss ord first after n w) := by
  have HFo : Hid _ := rFollow_any fa oa za n fc m oc d zc first l dss ord w hb hn h hm hs hz hd hds hzc
  have HD : Hid (BRow w fa fc first ∧ first.length = n ∧ OpsD w oa l dss ∧ l.length = m ∧ ZRow w za ord ∧ ord.length = d) := ⟨hb, hn, h, hm, hz, hd⟩
  have HM : Hid (m ≤ 1099511627776 ∧ BRow w aa ac after ∧ after.length = an ∧ an ≤ ac) := ⟨hs, ha, han, hac⟩
  clear hb hn h hm hz hd ha han hac
  go_enter Try.func20, Try.ntmps20
  go_wp2_with fail
  refine Calls.mono HFo.out ?_
  rintro e W1 ⟨v, at_, en, rfl, hfo, hb1⟩
  have HB1 : Hid (Below w.heap.size w W1) := hb1
  have hcase : (∃ x : Nat, en = (x : Int) ∧ x ≠ 0 ∧ SvOut l dss ord first after n 0 false x) ∨ (en = 0 ∧ wrg n l = 0 ∧ Follows l dss ord first ∧ ∃ bsF, FolR l dss ord first ord.length bsF) := by
    rcases hfo with ⟨h1, h2, h3, h4⟩ | ⟨h1, i, bs, h2, h3, h4, h5, h6, h7⟩ | ⟨h1, bs, h2, h3, h4, h5, h6⟩ | ⟨h1, bs, co, cc, h2, h3, h4, h5, h6, h7, h8⟩
    · exact .inl ⟨wrg n l, h4, h1, .inl ⟨h1, rfl, rfl, rfl⟩⟩
    · refine .inl ⟨172, h7, by decide, .inr (.inl ⟨h1, .inr ?_, rfl, rfl, rfl⟩)⟩
      rintro ⟨bsF, hf, _⟩
      obtain ⟨bs0, k, p, ds, q1, q2⟩ := hf.goes h3
      have e := FolR.det q1 h2
      subst e
      exact h4 k p ds q2
    · refine .inl ⟨172, h6, by decide, .inr (.inl ⟨h1, .inr ?_, rfl, rfl, rfl⟩)⟩
      rintro ⟨bsF, hf, hw⟩
      exact h3 hw
    · exact .inr ⟨h8, h1, ⟨bs, h2, h3⟩, bs, h2⟩
  clear hfo hb1 HFo
  rcases hcase with ⟨x, rfl, hx0, hout⟩ | ⟨rfl, hwr, hfl, bsF, hbsF⟩
  · have HO : Hid (SvOut l dss ord first after n 0 false x) := hout
    have n8 : ((x : Int) == 0) = false := by rw [beq_eq_false_iff_ne]; omega
    have n7 : ((x : Int) != 0) = true := by rw [bne_iff_ne]; omega
    clear hout hx0
    go_wp2_with fail
    go_ret3
    exact SvEnd.mk 0 false x rfl HO.out HB1.out
  · have HWr : Hid (wrg n l = 0 ∧ Follows l dss ord first ∧ FolR l dss ord first ord.length bsF ∧ Ordd l ord) := ⟨hwr, hfl, hbsF, hbsF.ordd⟩
    have hns : n ≤ 4096 := (wrg_zero hwr).1
    clear hwr hfl hbsF
    by_cases hal : an = n
    · subst hal
      have n7 : ((an : Int) != (an : Int)) = false := by simp
      have hS8 : secs an ≤ 8 := by unfold secs; omega
      obtain ⟨S, hS⟩ : ∃ S, secs an = S := ⟨_, rfl⟩
      have HSS : Hid (secs an = S) := hS
      rw [hS] at hS8
      clear hS
      go_wp2_with fail
      go_loopw [14] (fun xv wr => ∃ s : Nat, s ≤ S ∧ xv = .int .i64 (s : Int) ∧ Hid (Below w.heap.size w wr ∧ ∀ j, j < s → Okay l dss ord first after j ord.length)) (fun xv _ => S - (intOf xv).toNat)
      case atStart => exact ⟨0, Nat.zero_le _, rfl, HB1.out, fun j hj => by omega⟩
      case round =>
        obtain ⟨s, hsl, rfl, HQ⟩ := hrel
        obtain ⟨y, hy⟩ : ∃ y : Nat, s * 512 = y := ⟨_, rfl⟩
        have q2 : (s : Int) * 512 = (y : Int) := by omega
        have q5 : y ≤ 4096 := by omega
        by_cases hlt : s < S
        · have hsS : s < secs an := by rw [HSS.out]; exact hlt
          have hyn : y < an := by have := secs_lt.1 hsS; omega
          have n9 : decide ((y : Int) < (an : Int)) = true := decide_eq_true (by omega)
          have n9b : decide (y < an) = true := decide_eq_true hyn
          have HSl : Hid (s < secs an ∧ s < S) := ⟨hsS, hlt⟩
          have HFl : Hid _ := rFloor_any oa za an m oc d zc s l ord wr (HD.out.2.2.1.ops.later HQ.out.1) HD.out.2.2.2.1 HWr.out.1 (HD.out.2.2.2.2.1.later HQ.out.1) HD.out.2.2.2.2.2 hds HWr.out.2.2.2 hsS
          obtain ⟨f, hf⟩ : ∃ f, flr l ord s d = f := ⟨_, rfl⟩
          have HFf : Hid (flr l ord s ord.length = f ∧ f ≤ d) := by
            constructor
            · rw [HD.out.2.2.2.2.2]; exact hf
            · rw [← hf]; exact flr_le _ _ _ _
          rw [hf] at HFl
          obtain ⟨wo, hwo⟩ : ∃ wo, wr = wo := ⟨_, rfl⟩
          rw [hwo] at HFl HQ ⊢
          clear hy hsS hlt hf hwo
          clear wr
          go_wp2_with fail
          refine Calls.mono HFl.out ?_
          rintro e W2 ⟨rfl, hb2⟩
          have HB2 : Hid (Below w.heap.size w W2) := HQ.out.1.trans (hb2.mono HQ.out.1.size)
          have HCp : Hid _ := copy_room fa fc an first W2 (HD.out.1.later HB2.out) HD.out.2.1
          clear hb2 HFl
          go_wp2_with fail
          refine Calls.mono HCp.out ?_
          rintro e W3 ⟨co, cc, rfl, hr3, hc3, hb3⟩
          have HB3 : Hid (Below w.heap.size w W3 ∧ BRow W3 co cc first ∧ an ≤ cc) := ⟨HB2.out.trans (hb3.mono HB2.out.size), hr3, hc3⟩
          clear hr3 hc3 hb3 HCp
          go_wp2_with fail
          go_loopw [16, 17, 18] (fun bv9 okv iv wr => ∃ (i : Nat) (bs : List Nat) (co : Option Addr) (cc : Nat) (ok : Bool), i ≤ d + 1 ∧ bv9 = .slice co an cc ∧ okv = .bool ok ∧ iv = .int .i64 (i : Int) ∧ Hid (Below w.heap.size w wr ∧ BRow wr co cc bs ∧ bs.length = an ∧ an ≤ cc ∧ (i ≤ d → FolR l dss ord first i bs) ∧ OkIs l dss ord first after s f i ok)) (fun _ _ iv _ => d + 1 - (intOf iv).toNat)
          case atStart => exact ⟨0, first, co, cc, false, Nat.zero_le _, rfl, rfl, rfl, HB3.out.1, HB3.out.2.1, HD.out.2.1, HB3.out.2.2, fun _ => .nil, OkIs.of ⟨(fun h => by cases h), fun ⟨j, _, h, _⟩ => by omega⟩⟩
          case round =>
            obtain ⟨i, bs, co, cc, ok, hi, rfl, rfl, rfl, HR⟩ := hrel
            by_cases hle : i ≤ d
            · have n5 : decide ((i : Int) ≤ (d : Int)) = true := decide_eq_true (by omega)
              have HLe : Hid (i ≤ d) := hle
              have n5b : decide (i ≤ d) = true := decide_eq_true hle
              by_cases hfi : f ≤ i
              · have n4 : decide ((f : Int) ≤ (i : Int)) = true := decide_eq_true (by omega)
                have HFi : Hid (f ≤ i) := hfi
                have n4b : decide (f ≤ i) = true := decide_eq_true hfi
                cases ok with
                | true =>
                  have HOk : Hid (OkIs l dss ord first after s f (i + 1) true) := OkTo.next (ok := true) HR.out.2.2.2.2.2.out (HR.out.2.2.2.2.1 hle) hfi
                  
                  have HX : Hid (Below w.heap.size w wr ∧ BRow wr co cc bs) := ⟨HR.out.1, HR.out.2.1⟩
                  by_cases hid : i < d
                  · have n3 : decide ((i : Int) < (d : Int)) = true := decide_eq_true (by omega)
                    have n3b : decide (i < d) = true := decide_eq_true hid
                    have ii0 : (0 : Int) ≤ (i : Int) := by omega
                    have ii9 : (i : Int) < (d : Int) := by omega
                    have hil : i < ord.length := by rw [HD.out.2.2.2.2.2]; exact hid
                    obtain ⟨bs0, k, p, ds, q1, q2g⟩ := HWr.out.2.2.1.goes hil
                    have eb : bs0 = bs := FolR.det q1 (HR.out.2.2.2.2.1 HLe.out)
                    subst eb
                    have HG : Hid (Goes l dss ord bs0 i k p ds ∧ FolR l dss ord first i bs0) := ⟨q2g, q1⟩
                    have hq := q2g.1
                    have hp := q2g.2.2.1
                    have hdk := q2g.2.2.2.1
                    obtain ⟨zb, zo, e0, hcz⟩ := HD.out.2.2.2.2.1.at_ (by rintro rfl; simp at hil)
                    subst e0
                    have hqe : ord[i] = (k : Int) := (List.getElem?_eq_some_iff.1 hq).2
                    have cq : World.cell? wr ⟨zb, zo + i, none⟩ = some (.int .i64 (k : Int)) := by rw [← hqe]; exact cell_later HX.out.1 (hcz i hil)
                    obtain ⟨ob, oo, e1, hc⟩ := ops_at (HD.out.2.2.1.ops.later HX.out.1) hp
                    subst e1
                    have hkm : k < m := by rw [← HD.out.2.2.2.1]; exact (List.getElem?_eq_some_iff.1 hp).1
                    have kk0 : (0 : Int) ≤ (k : Int) := by omega
                    have kk9 : (k : Int) < (m : Int) := by omega
                    have c0 : World.cell? wr ⟨ob, oo + k * 7, none⟩ = some (.int .i64 p.k) := hc 0 _ rfl
                    have c1 : World.cell? wr ⟨ob, oo + k * 7 + 1, none⟩ = some (.int .i64 p.fr) := hc 1 _ rfl
                    have c2 : World.cell? wr ⟨ob, oo + k * 7 + 2, none⟩ = some (.int .i64 p.to_) := hc 2 _ rfl
                    have c3 : World.cell? wr ⟨ob, oo + k * 7 + 3, none⟩ = some (.int .i64 p.off) := hc 3 _ rfl
                    have c4 : World.cell? wr ⟨ob, oo + k * 7 + 4, none⟩ = some (.int .i64 p.len) := hc 4 _ rfl
                    have c5 : World.cell? wr ⟨ob, oo + k * 7 + 5, none⟩ = some (.slice p.da p.n p.dc) := hc 5 _ rfl
                    have c6 : World.cell? wr ⟨ob, oo + k * 7 + 6, none⟩ = some (.bool p.sy) := hc 6 _ rfl
                    have hrow := HD.out.2.2.1.row k p ds hp hdk
                    have HPl : Hid _ := rPlay_any co cc an p bs0 ds wr HX.out.2 HR.out.2.2.1 (hrow.1.later HX.out.1) hrow.2 ((wrg_zero HWr.out.1).2 k p hp) hns
                    have HId : Hid (i + 1 ≤ d + 1) := by show _ ≤ _; omega
                    clear hc hcz hrow hq hp hdk hqe hil hkm q2g q1
                    go_wp2_with fail
                    refine Calls.mono HPl.out ?_
                    rintro e W8 ⟨co8, cc8, b8, bs8, rfl, hb8, hbs8, hl8, hr8, ho8, hbl8⟩
                    have hfit : b8 = true := by rw [hb8]; exact HG.out.1.2.2.2.2.2
                    subst hfit
                    have HB8 : Hid (Below w.heap.size w W8 ∧ BRow W8 co8 cc8 bs8 ∧ bs8.length = an ∧ an ≤ cc8 ∧ bs8 = p.eff bs0 ds) := ⟨HX.out.1.trans (hbl8.mono HX.out.1.size), hr8, hl8, owns_cap ho8, hbs8 rfl⟩
                    clear hb8 hbs8 hl8 hr8 ho8 hbl8 HPl c0 c1 c2 c3 c4 c5 c6 cq
                    have HFn : Hid (i + 1 ≤ d → FolR l dss ord first (i + 1) bs8) := fun _ => by
                      rw [HB8.out.2.2.2.2]
                      exact .step HG.out.2 HG.out.1
                    go_wp2_with fail
                    go_roundw
                    case rel => exact ⟨i + 1, bs8, co8, cc8, true, HId.out, rfl, rfl, by go_num, HB8.out.1, HB8.out.2.1, HB8.out.2.2.1, HB8.out.2.2.2.1, HFn.out, HOk.out⟩
                    case measure => have := HId.out; simp [intOf]; omega
                  · have n3 : decide ((i : Int) < (d : Int)) = false := decide_eq_false (by omega)
                    have n3b : decide (i < d) = false := decide_eq_false hid
                    have HId : Hid (i + 1 ≤ d + 1) := by have := HLe.out; show _ ≤ _; omega
                    have HFn : Hid (i + 1 ≤ d → FolR l dss ord first (i + 1) bs) := fun h => absurd h (by omega)
                    go_wp2_with fail
                    go_roundw
                    case rel => exact ⟨i + 1, bs, co, cc, true, HId.out, rfl, rfl, by go_num, HX.out.1, HX.out.2, HR.out.2.2.1, HR.out.2.2.2.1, HFn.out, HOk.out⟩
                    case measure => have := HId.out; simp [intOf]; omega
                | false =>
                  have HP1 : Hid _ := rPart_any co an cc s bs wr HR.out.2.1 HR.out.2.2.1 HR.out.2.2.2.1 hns HSl.out.1
                  have HP2 : Hid _ := rPart_any aa an ac s after wr (HM.out.2.1.later HR.out.1) HM.out.2.2.1 HM.out.2.2.2 hns HSl.out.1
                  have HOk : Hid (OkIs l dss ord first after s f (i + 1) (decide (prt bs s = prt after s))) := OkTo.next (ok := false) HR.out.2.2.2.2.2.out (HR.out.2.2.2.2.1 hle) hfi
                  
                  go_wp2_with fail
                  refine Calls.mono HP1.out ?_
                  rintro e W5 ⟨sa, m1, k1, rfl, rfl, hr1, hl1⟩
                  have HR1 : Hid (BRow W5 sa k1 (prt bs s) ∧ (prt bs s).length = m1) := ⟨hr1, hl1⟩
                  clear hr1 hl1
                  go_wp2_with fail
                  refine Calls.mono HP2.out ?_
                  rintro e W6 ⟨sb, m2, k2, rfl, rfl, hr2, hl2⟩
                  have HSm : Hid _ := same_rows HR1.out.1 HR1.out.2 hr2 hl2
                  clear hr2 hl2
                  go_wp2_with fail
                  refine Calls.mono HSm.out ?_
                  rintro e W7 ⟨rfl, hb7⟩
                  have HB7 : Hid (Below W6.heap.size W6 W7) := hb7
                  obtain ⟨o2, ho2⟩ : ∃ o2, decide (prt bs s = prt after s) = o2 := ⟨_, rfl⟩
                  rw [ho2] at HOk ⊢
                  clear hb7 HSm ho2 HP1 HP2
                  have HX : Hid (Below w.heap.size w W7 ∧ BRow W7 co cc bs) := ⟨(HR.out.1.trans (HB7.out.mono HR.out.1.size)), (HR.out.2.1.later HB7.out)⟩
                  by_cases hid : i < d
                  · have n3 : decide ((i : Int) < (d : Int)) = true := decide_eq_true (by omega)
                    have n3b : decide (i < d) = true := decide_eq_true hid
                    have ii0 : (0 : Int) ≤ (i : Int) := by omega
                    have ii9 : (i : Int) < (d : Int) := by omega
                    have hil : i < ord.length := by rw [HD.out.2.2.2.2.2]; exact hid
                    obtain ⟨bs0, k, p, ds, q1, q2g⟩ := HWr.out.2.2.1.goes hil
                    have eb : bs0 = bs := FolR.det q1 (HR.out.2.2.2.2.1 HLe.out)
                    subst eb
                    have HG : Hid (Goes l dss ord bs0 i k p ds ∧ FolR l dss ord first i bs0) := ⟨q2g, q1⟩
                    have hq := q2g.1
                    have hp := q2g.2.2.1
                    have hdk := q2g.2.2.2.1
                    obtain ⟨zb, zo, e0, hcz⟩ := HD.out.2.2.2.2.1.at_ (by rintro rfl; simp at hil)
                    subst e0
                    have hqe : ord[i] = (k : Int) := (List.getElem?_eq_some_iff.1 hq).2
                    have cq : World.cell? W7 ⟨zb, zo + i, none⟩ = some (.int .i64 (k : Int)) := by rw [← hqe]; exact cell_later HX.out.1 (hcz i hil)
                    obtain ⟨ob, oo, e1, hc⟩ := ops_at (HD.out.2.2.1.ops.later HX.out.1) hp
                    subst e1
                    have hkm : k < m := by rw [← HD.out.2.2.2.1]; exact (List.getElem?_eq_some_iff.1 hp).1
                    have kk0 : (0 : Int) ≤ (k : Int) := by omega
                    have kk9 : (k : Int) < (m : Int) := by omega
                    have c0 : World.cell? W7 ⟨ob, oo + k * 7, none⟩ = some (.int .i64 p.k) := hc 0 _ rfl
                    have c1 : World.cell? W7 ⟨ob, oo + k * 7 + 1, none⟩ = some (.int .i64 p.fr) := hc 1 _ rfl
                    have c2 : World.cell? W7 ⟨ob, oo + k * 7 + 2, none⟩ = some (.int .i64 p.to_) := hc 2 _ rfl
                    have c3 : World.cell? W7 ⟨ob, oo + k * 7 + 3, none⟩ = some (.int .i64 p.off) := hc 3 _ rfl
                    have c4 : World.cell? W7 ⟨ob, oo + k * 7 + 4, none⟩ = some (.int .i64 p.len) := hc 4 _ rfl
                    have c5 : World.cell? W7 ⟨ob, oo + k * 7 + 5, none⟩ = some (.slice p.da p.n p.dc) := hc 5 _ rfl
                    have c6 : World.cell? W7 ⟨ob, oo + k * 7 + 6, none⟩ = some (.bool p.sy) := hc 6 _ rfl
                    have hrow := HD.out.2.2.1.row k p ds hp hdk
                    have HPl : Hid _ := rPlay_any co cc an p bs0 ds W7 HX.out.2 HR.out.2.2.1 (hrow.1.later HX.out.1) hrow.2 ((wrg_zero HWr.out.1).2 k p hp) hns
                    have HId : Hid (i + 1 ≤ d + 1) := by show _ ≤ _; omega
                    clear hc hcz hrow hq hp hdk hqe hil hkm q2g q1
                    go_wp2_with fail
                    refine Calls.mono HPl.out ?_
                    rintro e W8 ⟨co8, cc8, b8, bs8, rfl, hb8, hbs8, hl8, hr8, ho8, hbl8⟩
                    have hfit : b8 = true := by rw [hb8]; exact HG.out.1.2.2.2.2.2
                    subst hfit
                    have HB8 : Hid (Below w.heap.size w W8 ∧ BRow W8 co8 cc8 bs8 ∧ bs8.length = an ∧ an ≤ cc8 ∧ bs8 = p.eff bs0 ds) := ⟨HX.out.1.trans (hbl8.mono HX.out.1.size), hr8, hl8, owns_cap ho8, hbs8 rfl⟩
                    clear hb8 hbs8 hl8 hr8 ho8 hbl8 HPl c0 c1 c2 c3 c4 c5 c6 cq
                    have HFn : Hid (i + 1 ≤ d → FolR l dss ord first (i + 1) bs8) := fun _ => by
                      rw [HB8.out.2.2.2.2]
                      exact .step HG.out.2 HG.out.1
                    go_wp2_with fail
                    go_roundw
                    case rel => exact ⟨i + 1, bs8, co8, cc8, o2, HId.out, rfl, rfl, by go_num, HB8.out.1, HB8.out.2.1, HB8.out.2.2.1, HB8.out.2.2.2.1, HFn.out, HOk.out⟩
                    case measure => have := HId.out; simp [intOf]; omega
                  · have n3 : decide ((i : Int) < (d : Int)) = false := decide_eq_false (by omega)
                    have n3b : decide (i < d) = false := decide_eq_false hid
                    have HId : Hid (i + 1 ≤ d + 1) := by have := HLe.out; show _ ≤ _; omega
                    have HFn : Hid (i + 1 ≤ d → FolR l dss ord first (i + 1) bs) := fun h => absurd h (by omega)
                    go_wp2_with fail
                    go_roundw
                    case rel => exact ⟨i + 1, bs, co, cc, o2, HId.out, rfl, rfl, by go_num, HX.out.1, HX.out.2, HR.out.2.2.1, HR.out.2.2.2.1, HFn.out, HOk.out⟩
                    case measure => have := HId.out; simp [intOf]; omega
              · have n4 : decide ((f : Int) ≤ (i : Int)) = false := decide_eq_false (by omega)
                have n4b : decide (f ≤ i) = false := decide_eq_false hfi
                have HOk : Hid (OkIs l dss ord first after s f (i + 1) ok) := OkTo.skip HR.out.2.2.2.2.2.out (by omega)
                
                have HX : Hid (Below w.heap.size w wr ∧ BRow wr co cc bs) := ⟨HR.out.1, HR.out.2.1⟩
                by_cases hid : i < d
                · have n3 : decide ((i : Int) < (d : Int)) = true := decide_eq_true (by omega)
                  have n3b : decide (i < d) = true := decide_eq_true hid
                  have ii0 : (0 : Int) ≤ (i : Int) := by omega
                  have ii9 : (i : Int) < (d : Int) := by omega
                  have hil : i < ord.length := by rw [HD.out.2.2.2.2.2]; exact hid
                  obtain ⟨bs0, k, p, ds, q1, q2g⟩ := HWr.out.2.2.1.goes hil
                  have eb : bs0 = bs := FolR.det q1 (HR.out.2.2.2.2.1 HLe.out)
                  subst eb
                  have HG : Hid (Goes l dss ord bs0 i k p ds ∧ FolR l dss ord first i bs0) := ⟨q2g, q1⟩
                  have hq := q2g.1
                  have hp := q2g.2.2.1
                  have hdk := q2g.2.2.2.1
                  obtain ⟨zb, zo, e0, hcz⟩ := HD.out.2.2.2.2.1.at_ (by rintro rfl; simp at hil)
                  subst e0
                  have hqe : ord[i] = (k : Int) := (List.getElem?_eq_some_iff.1 hq).2
                  have cq : World.cell? wr ⟨zb, zo + i, none⟩ = some (.int .i64 (k : Int)) := by rw [← hqe]; exact cell_later HX.out.1 (hcz i hil)
                  obtain ⟨ob, oo, e1, hc⟩ := ops_at (HD.out.2.2.1.ops.later HX.out.1) hp
                  subst e1
                  have hkm : k < m := by rw [← HD.out.2.2.2.1]; exact (List.getElem?_eq_some_iff.1 hp).1
                  have kk0 : (0 : Int) ≤ (k : Int) := by omega
                  have kk9 : (k : Int) < (m : Int) := by omega
                  have c0 : World.cell? wr ⟨ob, oo + k * 7, none⟩ = some (.int .i64 p.k) := hc 0 _ rfl
                  have c1 : World.cell? wr ⟨ob, oo + k * 7 + 1, none⟩ = some (.int .i64 p.fr) := hc 1 _ rfl
                  have c2 : World.cell? wr ⟨ob, oo + k * 7 + 2, none⟩ = some (.int .i64 p.to_) := hc 2 _ rfl
                  have c3 : World.cell? wr ⟨ob, oo + k * 7 + 3, none⟩ = some (.int .i64 p.off) := hc 3 _ rfl
                  have c4 : World.cell? wr ⟨ob, oo + k * 7 + 4, none⟩ = some (.int .i64 p.len) := hc 4 _ rfl
                  have c5 : World.cell? wr ⟨ob, oo + k * 7 + 5, none⟩ = some (.slice p.da p.n p.dc) := hc 5 _ rfl
                  have c6 : World.cell? wr ⟨ob, oo + k * 7 + 6, none⟩ = some (.bool p.sy) := hc 6 _ rfl
                  have hrow := HD.out.2.2.1.row k p ds hp hdk
                  have HPl : Hid _ := rPlay_any co cc an p bs0 ds wr HX.out.2 HR.out.2.2.1 (hrow.1.later HX.out.1) hrow.2 ((wrg_zero HWr.out.1).2 k p hp) hns
                  have HId : Hid (i + 1 ≤ d + 1) := by show _ ≤ _; omega
                  clear hc hcz hrow hq hp hdk hqe hil hkm q2g q1
                  go_wp2_with fail
                  refine Calls.mono HPl.out ?_
                  rintro e W8 ⟨co8, cc8, b8, bs8, rfl, hb8, hbs8, hl8, hr8, ho8, hbl8⟩
                  have hfit : b8 = true := by rw [hb8]; exact HG.out.1.2.2.2.2.2
                  subst hfit
                  have HB8 : Hid (Below w.heap.size w W8 ∧ BRow W8 co8 cc8 bs8 ∧ bs8.length = an ∧ an ≤ cc8 ∧ bs8 = p.eff bs0 ds) := ⟨HX.out.1.trans (hbl8.mono HX.out.1.size), hr8, hl8, owns_cap ho8, hbs8 rfl⟩
                  clear hb8 hbs8 hl8 hr8 ho8 hbl8 HPl c0 c1 c2 c3 c4 c5 c6 cq
                  have HFn : Hid (i + 1 ≤ d → FolR l dss ord first (i + 1) bs8) := fun _ => by
                    rw [HB8.out.2.2.2.2]
                    exact .step HG.out.2 HG.out.1
                  go_wp2_with fail
                  go_roundw
                  case rel => exact ⟨i + 1, bs8, co8, cc8, ok, HId.out, rfl, rfl, by go_num, HB8.out.1, HB8.out.2.1, HB8.out.2.2.1, HB8.out.2.2.2.1, HFn.out, HOk.out⟩
                  case measure => have := HId.out; simp [intOf]; omega
                · have n3 : decide ((i : Int) < (d : Int)) = false := decide_eq_false (by omega)
                  have n3b : decide (i < d) = false := decide_eq_false hid
                  have HId : Hid (i + 1 ≤ d + 1) := by have := HLe.out; show _ ≤ _; omega
                  have HFn : Hid (i + 1 ≤ d → FolR l dss ord first (i + 1) bs) := fun h => absurd h (by omega)
                  go_wp2_with fail
                  go_roundw
                  case rel => exact ⟨i + 1, bs, co, cc, ok, HId.out, rfl, rfl, by go_num, HX.out.1, HX.out.2, HR.out.2.2.1, HR.out.2.2.2.1, HFn.out, HOk.out⟩
                  case measure => have := HId.out; simp [intOf]; omega
            · have n5 : decide ((i : Int) ≤ (d : Int)) = false := decide_eq_false (by omega)
              have n5b : decide (i ≤ d) = false := decide_eq_false hle
              have HE : Hid (i = d + 1) := by show _ = _; omega
              have HOkk : Hid (ok = true ↔ Okay l dss ord first after s ord.length) := by
                rw [show Hid _ = (ok = true ↔ Okay l dss ord first after s ord.length) from rfl, HR.out.2.2.2.2.2.out, HE.out]
                unfold OkTo Okay
                rw [HFf.out.1, HD.out.2.2.2.2.2]
                constructor
                · rintro ⟨j, h1, h2, h3⟩; exact ⟨j, h1, by omega, h3⟩
                · rintro ⟨j, h1, h2, h3⟩; exact ⟨j, h1, by omega, h3⟩
              cases ok with
              | true =>
                have HN : Hid (∀ j, j < s + 1 → Okay l dss ord first after j ord.length) := fun j hj => by
                  rcases Nat.lt_or_ge j s with h1 | h1
                  · exact HQ.out.2 j h1
                  · have e : j = s := by omega
                    rw [e]; exact HOkk.out.1 rfl
                go_wp2_with fail
                go_roundw
                case rel => exact ⟨s + 1, HSl.out.2, by go_num, HR.out.1, HN.out⟩
                case measure => have := HSl.out.2; simp [intOf]; omega
              | false =>
                have HO : Hid (SvOut l dss ord first after an s false 0) := .inr (.inr (.inl ⟨HWr.out.1, HM.out.2.2.1, HWr.out.2.1, rfl, rfl, HSl.out.1, (fun h => by cases HOkk.out.2 h), HQ.out.2⟩))
                go_wp2_with fail
                go_ret3
                exact SvEnd.mk s false 0 rfl HO.out HR.out.1
        · have hyn : ¬ y < an := by
            have h1 : ¬ s < secs an := by rw [HSS.out]; exact hlt
            rw [secs_lt] at h1; omega
          have n9 : decide ((y : Int) < (an : Int)) = false := decide_eq_false (by omega)
          have n9b : decide (y < an) = false := decide_eq_false hyn
          have HO : Hid (SvOut l dss ord first after an 0 true 0) := .inr (.inr (.inr ⟨HWr.out.1, HM.out.2.2.1, HWr.out.2.1, rfl, rfl, rfl, fun j hj => HQ.out.2 j (by rw [HSS.out] at hj; omega)⟩))
          clear hy hlt
          go_wp2_with fail
          go_ret3
          exact SvEnd.mk 0 true 0 rfl HO.out HQ.out.1
    · have HA : Hid (SvOut l dss ord first after n 0 false 172) := .inr (.inl ⟨HWr.out.1, .inl (by rw [HM.out.2.2.1]; exact hal), rfl, rfl, rfl⟩)
      have n7 : ((an : Int) != (n : Int)) = true := by rw [bne_iff_ne]; omega
      have n6 : ((an : Int) == (n : Int)) = false := by rw [beq_eq_false_iff_ne]; omega
      clear hal
      go_wp2_with fail
      go_ret3
      exact SvEnd.mk 0 false 172 rfl HA.out HB1.out
end Go.Proofs.Ytjkoambfecmglaa
