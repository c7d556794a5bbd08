import Derived.Test.YtjkoambfecmglaaVNz
namespace Go.Proofs.Ytjkoambfecmglaa
open Go.RowKit
set_option linter.unusedVariables false
set_option linter.unusedSimpArgs false
set_option maxRecDepth 100000
/-- the bytes behind an operation -/
def Opv.eff (o : Opv) (bs ds : List Nat) : List Nat := if o.k = 2 then laidTo bs ds o.off.toNat o.len.toNat else if o.k = 3 then laidTo bs (List.replicate o.len.toNat 0) o.off.toNat o.len.toNat else bs
/-- does its answer fit the bytes? -/
def Opv.fit (o : Opv) (bs ds : List Nat) : Bool := o.k != 1 || !o.ans || decide ((bs.drop o.off.toNat).take o.len.toNat = ds)
/-- what 'may' says, limb by limb -/
structure Opv.May (o : Opv) (n : Nat) : Prop where
  k1 : 1 ≤ o.k
  k4 : o.k ≤ 4
  fr0 : 0 ≤ o.fr
  to1 : o.to_ = -1 ∨ o.fr ≤ o.to_
  off0 : 0 ≤ o.off
  len0 : 0 ≤ o.len
  offn : o.off ≤ n
  lenn : o.len ≤ (n : Int) - o.off
  fl : o.k = 4 → o.off = 0 ∧ o.len = 0
  sy : o.sy = true → o.to_ ≠ -1 ∧ o.k ≠ 1
  da : if o.k = 2 ∨ (o.k = 1 ∧ o.to_ ≠ -1) then (o.n : Int) = o.len else o.n = 0
theorem Opv.may_of {o : Opv} {n : Nat} (h : o.may n = true) : o.May n := by
  unfold Opv.may at h
  by_cases a1 : o.k < 1
  · rw [if_pos a1] at h; cases h
  rw [if_neg a1] at h
  by_cases a2 : 4 < o.k
  · rw [if_pos a2] at h; cases h
  rw [if_neg a2] at h
  by_cases a3 : o.fr < 0
  · rw [if_pos a3] at h; cases h
  rw [if_neg a3] at h
  by_cases a4 : o.to_ ≠ -1 ∧ o.to_ < o.fr
  · rw [if_pos a4] at h; cases h
  rw [if_neg a4] at h
  by_cases a5 : o.off < 0
  · rw [if_pos a5] at h; cases h
  rw [if_neg a5] at h
  by_cases a6 : o.len < 0
  · rw [if_pos a6] at h; cases h
  rw [if_neg a6] at h
  by_cases a7 : (n : Int) < o.off
  · rw [if_pos a7] at h; cases h
  rw [if_neg a7] at h
  by_cases a8 : (n : Int) - o.off < o.len
  · rw [if_pos a8] at h; cases h
  rw [if_neg a8] at h
  by_cases a9 : o.k = 4 ∧ (o.off ≠ 0 ∨ o.len ≠ 0)
  · rw [if_pos a9] at h; cases h
  rw [if_neg a9] at h
  by_cases b0 : o.sy = true ∧ (o.to_ = -1 ∨ o.k = 1)
  · rw [if_pos b0] at h; cases h
  rw [if_neg b0] at h
  refine ⟨by omega, by omega, by omega, by omega, by omega, by omega, by omega, by omega, by omega, fun hs => ⟨fun e => b0 ⟨hs, .inl e⟩, fun e => b0 ⟨hs, .inr e⟩⟩, ?_⟩
  by_cases b1 : o.k = 2 ∨ (o.k = 1 ∧ o.to_ ≠ -1)
  · rw [if_pos b1] at h ⊢; simpa using h
  · rw [if_neg b1] at h ⊢; simpa using h
/-- the document plays any operation that may be -/
theorem rPlay_any (bo : Option Addr) (cap n : Nat) (o : Opv) (bs ds : List Nat) (w : World) (hb : BRow w bo cap bs) (hn : bs.length = n) (hd : BRow w o.da o.dc ds) (hm : ds.length = o.n) (ho : o.may n = true) (hs : n ≤ 4096) :
    Calls Try.prog 30 #[.slice bo n cap, .agg o.cells] w fun e w' => ∃ co cc b bs', e = .returned (.tuple #[.slice co n cc, .bool b]) ∧ b = o.fit bs ds ∧ (b = true → bs' = o.eff bs ds) ∧ bs'.length = n ∧ BRow w' co cc bs' ∧ w'.ownsRow w.heap.size 5 1 (.slice co n cc) n (bs'.map bv) ∧ Below w.heap.size w w' := by
  have M := Opv.may_of ho
  obtain ⟨k, fr, t, off, len, da, dn, dc, sy⟩ := o
  obtain ⟨k1, k4, fr0, to1, off0, len0, offn, lenn, fl, -, hda⟩ := M
  simp only at k1 k4 fr0 to1 off0 len0 offn lenn fl hda hd hm
  obtain ⟨off, rfl⟩ := Int.eq_ofNat_of_zero_le off0
  obtain ⟨len, rfl⟩ := Int.eq_ofNat_of_zero_le len0
  by_cases e4 : k = 4
  · subst e4
    obtain ⟨-, h0⟩ := fl rfl
    obtain rfl : len = 0 := by omega
    refine Calls.mono (rPlay_none bo da cap dc n dn off bs 4 fr t sy w hb hn hs) ?_
    rintro e w' ⟨co, cc, rfl, h1, h2, h3⟩
    exact ⟨co, cc, true, bs, rfl, rfl, fun _ => rfl, hn, h1, h2, h3⟩
  by_cases e3 : k = 3
  · subst e3
    refine Calls.mono (rPlay_zero bo da cap dc n len off dn bs fr t sy w hb hn (by omega) hs) ?_
    rintro e w' ⟨co, cc, rfl, h1, h2, h3⟩
    exact ⟨co, cc, true, laidTo bs (List.replicate len 0) off len, rfl, rfl, fun _ => rfl, (laidTo_len (by omega) (by simp)).trans hn, h1, h2, h3⟩
  by_cases e2 : k = 2
  · subst e2
    rw [if_pos (.inl rfl)] at hda
    obtain rfl : dn = len := by omega
    refine Calls.mono (rPlay_write bo da cap dc n dn off bs ds fr t sy w hb hn hd hm (by omega) hs) ?_
    rintro e w' ⟨co, cc, rfl, h1, h2, h3⟩
    exact ⟨co, cc, true, laidTo bs ds off dn, rfl, rfl, fun _ => rfl, (laidTo_len (by omega) (by omega)).trans hn, h1, h2, h3⟩
  · obtain rfl : k = 1 := by omega
    by_cases ht : t = -1
    · subst ht
      rw [if_neg (by simp)] at hda
      obtain rfl : dn = 0 := hda
      refine Calls.mono (rPlay_askN bo da cap dc n 0 len off bs fr sy w hb hn (by omega) hs) ?_
      rintro e w' ⟨co, cc, rfl, h1, h2, h3⟩
      exact ⟨co, cc, true, bs, rfl, rfl, fun _ => rfl, hn, h1, h2, h3⟩
    · rw [if_pos (.inr ⟨rfl, ht⟩)] at hda
      obtain rfl : dn = len := by omega
      refine Calls.mono (rPlay_read bo da cap dc n dn off bs ds fr t sy w hb hn hd hm ht (by omega) hs) ?_
      rintro e w' ⟨co, cc, rfl, h1, h2, h3⟩
      refine ⟨co, cc, _, bs, rfl, ?_, fun _ => rfl, hn, h1, h2, h3⟩
      have f1 : (t != -1) = true := by rw [bne_iff_ne]; exact ht
      simp [Opv.fit, Opv.ans, f1]
end Go.Proofs.Ytjkoambfecmglaa
