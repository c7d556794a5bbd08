import Derived.Test.YtjkoambfecmglaaTA
import Derived.Laws.BytesArg
import Derived.Deep.RegionHeld3
namespace Go.Proofs.Ytjkoambfecmglaa
open Go.RowKit
set_option linter.unusedVariables false
set_option linter.unusedSimpArgs false
set_option maxRecDepth 100000
/-- an operation, as its cells say it -/
structure Opv where
  k : Int
  fr : Int
  to_ : Int
  off : Int
  len : Int
  da : Option Addr
  n : Nat
  dc : Nat
  sy : Bool
abbrev Opv.cells (o : Opv) : Array Value := #[.int .i64 o.k, .int .i64 o.fr, .int .i64 o.to_, .int .i64 o.off, .int .i64 o.len, .slice o.da o.n o.dc, .bool o.sy]
def Opv.ans (o : Opv) : Bool := o.to_ != -1
def Opv.bef (a b : Opv) : Bool := a.ans && decide (a.to_ < b.fr)
set_option maxHeartbeats 1000000 in
theorem answered_any (o : Opv) (w : World) : Calls Try.prog 43 #[.agg o.cells] w fun e w' => e = .returned (.bool o.ans) ∧ Below w.heap.size w w' := by
  obtain ⟨k, fr, t, off, len, da, n, dc, sy⟩ := o
  obtain ⟨b, hb⟩ : ∃ b, (t != -1) = b := ⟨_, rfl⟩
  have hans : (Opv.mk k fr t off len da n dc sy).ans = b := hb
  rw [hans]
  have hbel := (Below.refl w.heap.size w).alloc (Nat.le_refl _) (Obj.cells #[.int .i64 k, .int .i64 fr, .int .i64 t, .int .i64 off, .int .i64 len, .slice da n dc, .bool sy] 50)
  have HB : Hid _ := hbel
  clear hbel hans
  go_enter Try.func43, Try.ntmps43
  go_wp2
  go_ret
  exact ⟨rfl, HB.out⟩
end Go.Proofs.Ytjkoambfecmglaa

namespace Go.Proofs.Ytjkoambfecmglaa
open Go.RowKit
set_option linter.unusedVariables false
set_option linter.unusedSimpArgs false
set_option maxRecDepth 100000
theorem belowTwo (w : World) (o1 o2 : Obj) : Below w.heap.size w ((w.alloc o1).alloc o2) := ((Below.refl w.heap.size w).alloc (Nat.le_refl _) o1).alloc (by simp) o2
end Go.Proofs.Ytjkoambfecmglaa

namespace Go.Proofs.Ytjkoambfecmglaa
open Go.RowKit
set_option linter.unusedVariables false
set_option linter.unusedSimpArgs false
set_option maxRecDepth 100000
set_option maxHeartbeats 2000000 in
theorem before_any (a b : Opv) (w : World) : Calls Try.prog 54 #[.agg a.cells, .agg b.cells] w fun e w' => e = .returned (.bool (a.bef b)) ∧ Below w.heap.size w w' := by
  obtain ⟨k, fr, t, off, len, da, n, dc, sy⟩ := a
  obtain ⟨k', fr', t', off', len', da', n', dc', sy'⟩ := b
  have HB : Hid _ := belowTwo w (Obj.cells #[.int .i64 k, .int .i64 fr, .int .i64 t, .int .i64 off, .int .i64 len, .slice da n dc, .bool sy] 50) (Obj.cells #[.int .i64 k', .int .i64 fr', .int .i64 t', .int .i64 off', .int .i64 len', .slice da' n' dc', .bool sy'] 50)
  have HA : Hid (∀ W, Calls Try.prog 43 #[.agg #[.int .i64 k, .int .i64 fr, .int .i64 t, .int .i64 off, .int .i64 len, .slice da n dc, .bool sy]] W fun e w' => e = .returned (.bool (t != -1)) ∧ Below W.heap.size W w') := fun W => answered_any ⟨k, fr, t, off, len, da, n, dc, sy⟩ W
  by_cases ht : t = -1
  · subst ht
    have e1 : Opv.bef ⟨k, fr, -1, off, len, da, n, dc, sy⟩ ⟨k', fr', t', off', len', da', n', dc', sy'⟩ = false := rfl
    rw [e1]
    go_enter Try.func54, Try.ntmps54
    go_wp2_with fail
    refine Calls.mono (HA.out _) ?_
    rintro e W1 ⟨rfl, hb⟩
    have HB1 : Hid (Below w.heap.size w W1) := HB.out.trans (hb.mono HB.out.size)
    clear hb
    go_wp2
    go_ret
    exact ⟨rfl, HB1.out⟩
  · have f0 : (t == -1) = false := by rw [beq_eq_false_iff_ne]; exact ht
    have f1 : (t != -1) = true := by simp [bne, f0]
    obtain ⟨c, hc⟩ : ∃ c, decide (t < fr') = c := ⟨_, rfl⟩
    have e1 : Opv.bef ⟨k, fr, t, off, len, da, n, dc, sy⟩ ⟨k', fr', t', off', len', da', n', dc', sy'⟩ = c := by
      show ((t != -1) && decide (t < fr')) = c
      rw [f1, hc]; rfl
    rw [e1]
    rw [f1] at HA
    have HC : Hid (∀ W, Below ((w.alloc (Obj.cells #[.int .i64 k, .int .i64 fr, .int .i64 t, .int .i64 off, .int .i64 len, .slice da n dc, .bool sy] 50)).alloc (Obj.cells #[.int .i64 k', .int .i64 fr', .int .i64 t', .int .i64 off', .int .i64 len', .slice da' n' dc', .bool sy'] 50)).heap.size ((w.alloc (Obj.cells #[.int .i64 k, .int .i64 fr, .int .i64 t, .int .i64 off, .int .i64 len, .slice da n dc, .bool sy] 50)).alloc (Obj.cells #[.int .i64 k', .int .i64 fr', .int .i64 t', .int .i64 off', .int .i64 len', .slice da' n' dc', .bool sy'] 50)) W → W.cell? ⟨w.heap.size, 2, none⟩ = some (.int .i64 t) ∧ W.cell? ⟨w.heap.size + 1, 1, none⟩ = some (.int .i64 fr')) := fun W hb => by
      constructor
      · refine cell_later hb ?_
        go_simp
      · refine cell_later hb ?_
        go_simp
    go_enter Try.func54, Try.ntmps54
    go_wp2_with fail
    refine Calls.mono (HA.out _) ?_
    rintro e W1 ⟨rfl, hb⟩
    have HB1 : Hid (Below w.heap.size w W1) := HB.out.trans (hb.mono HB.out.size)
    obtain ⟨c1, c2⟩ := HC.out W1 hb
    clear hb HC
    go_wp2
    all_goals go_ret
    all_goals exact ⟨by simp_all, HB1.out⟩
end Go.Proofs.Ytjkoambfecmglaa

namespace Go.Proofs.Ytjkoambfecmglaa
open Go.RowKit
set_option linter.unusedVariables false
set_option linter.unusedSimpArgs false
set_option maxRecDepth 100000
/-- a row of whole numbers -/
structure ZRow (W : World) (ao : Option Addr) (l : List Int) : Prop where
  at_ : l ≠ [] → ∃ b off, ao = some ⟨b, off, none⟩ ∧ ∀ k (hk : k < l.length), W.cell? ⟨b, off + k, none⟩ = some (.int .i64 l[k])
theorem ZRow.later {W V : World} {ao : Option Addr} {l : List Int} (h : ZRow W ao l) (hb : Below W.heap.size W V) : ZRow V ao l :=
  ⟨fun hl => by obtain ⟨b, off, e, hc⟩ := h.at_ hl; exact ⟨b, off, e, fun k hk => cell_later hb (hc k hk)⟩⟩
end Go.Proofs.Ytjkoambfecmglaa

namespace Go.Proofs.Ytjkoambfecmglaa
open Go.RowKit
set_option linter.unusedVariables false
set_option linter.unusedSimpArgs false
set_option maxRecDepth 100000
def Opv.may (o : Opv) (size : Nat) : Bool :=
  if o.k < 1 then false else if 4 < o.k then false else if o.fr < 0 then false else if o.to_ ≠ -1 ∧ o.to_ < o.fr then false else if o.off < 0 then false else if o.len < 0 then false else if (size : Int) < o.off then false else if (size : Int) - o.off < o.len then false else if o.k = 4 ∧ (o.off ≠ 0 ∨ o.len ≠ 0) then false else if o.sy = true ∧ (o.to_ = -1 ∨ o.k = 1) then false else if o.k = 2 ∨ (o.k = 1 ∧ o.to_ ≠ -1) then ((o.n : Int) == o.len) else ((o.n : Int) == 0)
end Go.Proofs.Ytjkoambfecmglaa

namespace Go.Proofs.Ytjkoambfecmglaa
open Go.RowKit
set_option linter.unusedVariables false
set_option linter.unusedSimpArgs false
set_option maxRecDepth 100000
/-- operations in memory: seven cells each -/
structure OpsR (W : World) (ao : Option Addr) (l : List Opv) : Prop where
  at_ : l ≠ [] → ∃ b off, ao = some ⟨b, off, none⟩ ∧ ∀ i (hi : i < l.length) j v, (l[i].cells)[j]? = some v → W.cell? ⟨b, off + i * 7 + j, none⟩ = some v
theorem OpsR.later {W V : World} {ao : Option Addr} {l : List Opv} (h : OpsR W ao l) (hb : Below W.heap.size W V) : OpsR V ao l :=
  ⟨fun hl => by obtain ⟨b, off, e, hc⟩ := h.at_ hl; exact ⟨b, off, e, fun i hi j v hv => cell_later hb (hc i hi j v hv)⟩⟩
/-- what the document says of all operations: 0, 170 or 171 -/
def wrg (n : Nat) (l : List Opv) : Nat := if 4096 < n then 170 else if l.all (fun o => o.may n) = true then 0 else 171
end Go.Proofs.Ytjkoambfecmglaa


namespace Go.Proofs.Ytjkoambfecmglaa
open Go.RowKit
set_option linter.unusedVariables false
set_option linter.unusedSimpArgs false
set_option maxRecDepth 100000
def bstr (l : List Nat) : ByteArray := strOfNums (l.map fun x : Nat => (x : Int))
theorem str_beq (a b : ByteArray) : (a.toList == b.toList) = decide (a = b) := by
  by_cases h : a = b
  · subst h; simp
  · rw [decide_eq_false h, beq_eq_false_iff_ne]
    intro e
    rw [ByteArray.toList_eq, ByteArray.toList_eq] at e
    obtain ⟨⟨x⟩⟩ := a
    obtain ⟨⟨y⟩⟩ := b
    simp at e
    exact h (by rw [e])
theorem bstr_inj {l m : List Nat} (hl : ∀ x ∈ l, x < 256) (hm : ∀ x ∈ m, x < 256) (h : bstr l = bstr m) : l = m := by
  have h1 : (bstr l).data.toList = (bstr m).data.toList := by rw [h]
  unfold bstr at h1
  rw [strOfNums_data, strOfNums_data, List.map_map, List.map_map] at h1
  have h2 : (l.map fun x => UInt8.ofNat x) = m.map fun x => UInt8.ofNat x := by simpa [Function.comp_def] using h1
  have h3 : l.length = m.length := by simpa using congrArg List.length h2
  apply List.ext_getElem h3
  intro i h4 h5
  have h6 := congrArg (fun z => z[i]?) h2
  simp only [List.getElem?_map, List.getElem?_eq_getElem h4, List.getElem?_eq_getElem h5, Option.map_some, Option.some.injEq] at h6
  have h7 := congrArg UInt8.toNat h6
  rw [UInt8.toNat_ofNat', UInt8.toNat_ofNat', Nat.mod_eq_of_lt (hl _ (List.getElem_mem h4)), Nat.mod_eq_of_lt (hm _ (List.getElem_mem h5))] at h7
  exact h7
theorem conv_row {W : World} {ao : Option Addr} {cap n : Nat} {l : List Nat} (h : BRow W ao cap l) (hn : l.length = n) : (convert 22 9 (.slice ao n cap)).run Try.prog W = .ok (.string (bstr l)) W := by
  subst hn
  cases ao with
  | none =>
    have e := (h.nil rfl).1
    subst e
    have := run_convert_bytes_nil (P := Try.prog) W 22 5 Try.underlying22 Try.underlying5 0 cap 9 Try.underlying9
    rw [show bstr [] = ByteArray.empty from rfl]
    exact this
  | some ad =>
    by_cases hl : l = []
    · subst hl
      rw [run_convert_bytes_string W 22 9 5 _ _ _ Try.underlying22 Try.underlying5 Try.underlying9]
      have := run_bytesToString (P := Try.prog) W ad ([] : List Nat).length cap [] (by
        have := run_loadCells_list (P := Try.prog) W ad [] (fun j v hj => by simp at hj)
        simpa using this)
      rw [this]
      rw [show bstr [] = ByteArray.empty from rfl]
      rfl
    · obtain ⟨b, off, e, hc⟩ := h.at_ hl
      cases e
      exact run_convert_bytes_arg W 22 5 Try.underlying22 Try.underlying5 b off l.length cap (l.map fun x : Nat => (x : Int)) (by simp) (fun i hi => by
        rw [hc i hi]; simp [List.getD, List.getElem?_eq_getElem hi, bv]) 9 Try.underlying9
set_option maxHeartbeats 4000000 in
/-- bytes.Equal -/
theorem equal_any (ao bo : Option Addr) (n m c d : Nat) (l k : List Nat) (w : World) (h : BRow w ao c l) (hn : l.length = n) (h2 : BRow w bo d k) (hm : k.length = m) :
    Calls Try.prog 67 #[.slice ao n c, .slice bo m d] w fun e w' => e = .returned (.bool (decide (l = k))) ∧ Below w.heap.size w w' := by
  have c1 := conv_row h hn
  have c2 := conv_row h2 hm
  have e1 : decide (l = k) = ((bstr l).toList == (bstr k).toList) := by
    rw [str_beq]
    by_cases e : l = k
    · subst e; simp
    · have : ¬ bstr l = bstr k := fun h3 => e (bstr_inj h.lt h2.lt h3)
      rw [decide_eq_false e, decide_eq_false this]
  rw [e1]
  clear h h2 e1
  go_enter Try.func67, Try.ntmps67
  go_wp2
  go_ret
  exact ⟨rfl, Below.refl _ _⟩
end Go.Proofs.Ytjkoambfecmglaa

namespace Go.Proofs.Ytjkoambfecmglaa
open Go.RowKit
set_option linter.unusedVariables false
set_option linter.unusedSimpArgs false
set_option maxRecDepth 100000
/-- all operations ahead of i that were answered stand in the list -/
def Whl (l : List Opv) (dn : List Int) (i : Nat) : Prop := ∀ j o, j < i → l[j]? = some o → o.ans = true → (j : Int) ∈ dn
theorem Whl.succ {l : List Opv} {dn : List Int} {i : Nat} {o : Opv} (h : Whl l dn i) (ho : l[i]? = some o) (hd : o.ans = true → (i : Int) ∈ dn) : Whl l dn (i + 1) := fun j p hj hp ha => by
  by_cases e : j = i
  · subst e; rw [ho] at hp; cases hp; exact hd ha
  · exact h j p (by omega) hp ha
end Go.Proofs.Ytjkoambfecmglaa

namespace Go.Proofs.Ytjkoambfecmglaa
open Go.RowKit
set_option linter.unusedVariables false
set_option linter.unusedSimpArgs false
set_option maxRecDepth 100000
/-- all operations ahead of i that are before p stand in the list -/
def Nxt (l : List Opv) (dn : List Int) (p : Opv) (i : Nat) : Prop := ∀ j o, j < i → l[j]? = some o → o.bef p = true → (j : Int) ∈ dn
theorem Nxt.succ {l : List Opv} {dn : List Int} {i : Nat} {o p : Opv} (h : Nxt l dn p i) (ho : l[i]? = some o) (hd : o.bef p = true → (i : Int) ∈ dn) : Nxt l dn p (i + 1) := fun j x hj hx ha => by
  by_cases e : j = i
  · subst e; rw [ho] at hx; cases hx; exact hd ha
  · exact h j x (by omega) hx ha
end Go.Proofs.Ytjkoambfecmglaa

namespace Go.Proofs.Ytjkoambfecmglaa
open Go.RowKit
set_option linter.unusedVariables false
set_option linter.unusedSimpArgs false
set_option maxRecDepth 100000
/-- the document's copy of bytes, in one form -/
theorem copy_any (bo : Option Addr) (cap n : Nat) (bs : List Nat) (w : World) (h : BRow w bo cap bs) (hn : bs.length = n) :
    Calls Try.prog 9 #[.slice bo n cap] w fun e w' => ∃ co cc, e = .returned (.slice co n cc) ∧ BRow w' co cc bs ∧ w'.ownsRow w.heap.size 5 1 (.slice co n cc) n (bs.map bv) ∧ Below w.heap.size w w' := by
  subst hn
  cases bo with
  | none =>
    obtain ⟨h1, h2⟩ := h.nil rfl
    subst h1; subst h2
    refine (copy_none w).mono ?_
    rintro e w' ⟨rfl, rfl⟩
    exact ⟨none, 0, rfl, h, World.ownsRow_nil _ _ _ _, Below.refl _ _⟩
  | some ad =>
    refine (copy_some ad cap bs w h).mono ?_
    rintro e w' ⟨v, rfl, ho, hb⟩
    obtain ⟨ao, c2, rfl⟩ := owns_form ho
    obtain ⟨a3, c3, e3, h3⟩ := BRow.own ho h.lt h.len
    cases e3
    exact ⟨ao, c2, rfl, h3, ho, hb⟩
end Go.Proofs.Ytjkoambfecmglaa

namespace Go.Proofs.Ytjkoambfecmglaa
open Go.RowKit
set_option linter.unusedVariables false
set_option linter.unusedSimpArgs false
set_option maxRecDepth 100000
/-- bs with the first i of ds laid at off -/
def laidTo (bs ds : List Nat) (off i : Nat) : List Nat := bs.take off ++ (ds.take i ++ bs.drop (off + i))
theorem laidTo_zero (bs ds : List Nat) (off : Nat) : laidTo bs ds off 0 = bs := by simp [laidTo]
theorem laidTo_set {bs ds : List Nat} {off i y : Nat} (hb : off + i < bs.length) (hd : ds[i]? = some y) : (laidTo bs ds off i).set (off + i) y = laidTo bs ds off (i + 1) := by
  have hi := (List.getElem?_eq_some_iff.1 hd).1
  have l1 : (bs.take off).length = off := by rw [List.length_take]; omega
  have l2 : (ds.take i).length = i := by rw [List.length_take]; omega
  unfold laidTo
  rw [List.set_append_right _ _ (by omega), l1, show off + i - off = i by omega, List.set_append_right _ _ (by omega), l2, Nat.sub_self, List.drop_eq_getElem_cons hb, List.set_cons_zero, List.take_add_one, hd]
  simp [Nat.add_assoc]
theorem laidTo_len {bs ds : List Nat} {off i : Nat} (hb : off + i ≤ bs.length) (hi : i ≤ ds.length) : (laidTo bs ds off i).length = bs.length := by
  simp [laidTo]; omega
theorem laidTo_lt {bs ds : List Nat} {off i : Nat} (hb : ∀ x ∈ bs, x < 256) (hd : ∀ x ∈ ds, x < 256) : ∀ x ∈ laidTo bs ds off i, x < 256 := fun x hx => by
  unfold laidTo at hx
  rcases List.mem_append.1 hx with h | h
  · exact hb x (List.mem_of_mem_take h)
  · rcases List.mem_append.1 h with h | h
    · exact hd x (List.mem_of_mem_take h)
    · exact hb x (List.mem_of_mem_drop h)
theorem own_set {W : World} {B e n g cap j : Nat} {xs : List Value} (h : W.ownsRow B e 1 (.slice (some ⟨g, 0, none⟩) n cap) n xs) (x : Value) (hj : j < n) : (W.setCell ⟨g, j, none⟩ x).ownsRow B e 1 (.slice (some ⟨g, 0, none⟩) n cap) n (xs.set j x) := by
  refine ⟨by rw [List.length_set]; exact h.1, Or.inr ?_⟩
  rcases h.2 with ⟨h0, _⟩ | ⟨g', cap', cur, hv, hb, hc, h1, h2, h3, h4⟩
  · simp at h0
  · simp at hv
    obtain ⟨rfl, rfl⟩ := hv
    refine ⟨g, cap, cur.setIfInBounds j x, rfl, hb, heap_setCell_same W g j cur e x hc, h1, h2, by simpa using h3, ?_⟩
    rw [Array.toList_setIfInBounds, List.take_set, h4]
/-- an owned row that holds something: its block, its cells, none frozen -/
theorem own_some {W : World} {B e n cc : Nat} {co : Option Addr} {xs : List Value} (h : W.ownsRow B e 1 (.slice co n cc) n xs) (hn : 0 < n) : ∃ g, co = some ⟨g, 0, none⟩ ∧ B ≤ g ∧ (∀ j, j < n → W.cell? ⟨g, j, none⟩ = xs[j]?) ∧ ∀ j, W.frozen? ⟨g, j, none⟩ = false := by
  rcases h.2 with ⟨h0, h1⟩ | ⟨g', cap', cur, hv, hb, hc, h1, h2, h3, h4⟩
  · omega
  · simp at hv
    obtain ⟨rfl, rfl⟩ := hv
    refine ⟨g', rfl, hb, fun j hj => ?_, fun j => blk_free hc j⟩
    rw [blk_at hc j, ← h4, List.getElem?_take_of_lt (by omega), Array.getElem?_toList]
end Go.Proofs.Ytjkoambfecmglaa

namespace Go.Proofs.Ytjkoambfecmglaa
open Go.RowKit
set_option linter.unusedVariables false
set_option linter.unusedSimpArgs false
set_option maxRecDepth 100000
/-- the bytes behind an operation -/
def Opv.eff (o : Opv) (bs ds : List Nat) : List Nat := if o.k = 2 then laidTo bs ds o.off.toNat o.len.toNat else if o.k = 3 then laidTo bs (List.replicate o.len.toNat 0) o.off.toNat o.len.toNat else bs
/-- does its answer fit the bytes? -/
def Opv.fit (o : Opv) (bs ds : List Nat) : Bool := o.k != 1 || !o.ans || decide ((bs.drop o.off.toNat).take o.len.toNat = ds)
/-- what 'may' says, limb by limb -/
structure Opv.May (o : Opv) (n : Nat) : Prop where
  k1 : 1 ≤ o.k
  k4 : o.k ≤ 4
  fr0 : 0 ≤ o.fr
  to1 : o.to_ = -1 ∨ o.fr ≤ o.to_
  off0 : 0 ≤ o.off
  len0 : 0 ≤ o.len
  offn : o.off ≤ n
  lenn : o.len ≤ (n : Int) - o.off
  fl : o.k = 4 → o.off = 0 ∧ o.len = 0
  sy : o.sy = true → o.to_ ≠ -1 ∧ o.k ≠ 1
  da : if o.k = 2 ∨ (o.k = 1 ∧ o.to_ ≠ -1) then (o.n : Int) = o.len else o.n = 0
theorem Opv.may_of {o : Opv} {n : Nat} (h : o.may n = true) : o.May n := by
  unfold Opv.may at h
  by_cases a1 : o.k < 1
  · rw [if_pos a1] at h; cases h
  rw [if_neg a1] at h
  by_cases a2 : 4 < o.k
  · rw [if_pos a2] at h; cases h
  rw [if_neg a2] at h
  by_cases a3 : o.fr < 0
  · rw [if_pos a3] at h; cases h
  rw [if_neg a3] at h
  by_cases a4 : o.to_ ≠ -1 ∧ o.to_ < o.fr
  · rw [if_pos a4] at h; cases h
  rw [if_neg a4] at h
  by_cases a5 : o.off < 0
  · rw [if_pos a5] at h; cases h
  rw [if_neg a5] at h
  by_cases a6 : o.len < 0
  · rw [if_pos a6] at h; cases h
  rw [if_neg a6] at h
  by_cases a7 : (n : Int) < o.off
  · rw [if_pos a7] at h; cases h
  rw [if_neg a7] at h
  by_cases a8 : (n : Int) - o.off < o.len
  · rw [if_pos a8] at h; cases h
  rw [if_neg a8] at h
  by_cases a9 : o.k = 4 ∧ (o.off ≠ 0 ∨ o.len ≠ 0)
  · rw [if_pos a9] at h; cases h
  rw [if_neg a9] at h
  by_cases b0 : o.sy = true ∧ (o.to_ = -1 ∨ o.k = 1)
  · rw [if_pos b0] at h; cases h
  rw [if_neg b0] at h
  refine ⟨by omega, by omega, by omega, by omega, by omega, by omega, by omega, by omega, by omega, fun hs => ⟨fun e => b0 ⟨hs, .inl e⟩, fun e => b0 ⟨hs, .inr e⟩⟩, ?_⟩
  by_cases b1 : o.k = 2 ∨ (o.k = 1 ∧ o.to_ ≠ -1)
  · rw [if_pos b1] at h ⊢; simpa using h
  · rw [if_neg b1] at h ⊢; simpa using h
end Go.Proofs.Ytjkoambfecmglaa
