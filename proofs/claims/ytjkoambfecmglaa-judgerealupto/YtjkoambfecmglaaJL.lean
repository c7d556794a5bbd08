import Derived.Test.YtjkoambfecmglaaJP
import Derived.Test.YtjkoambfecmglaaVTiz
import Derived.Test.YtjkoambfecmglaaVTjz
namespace Go.Proofs.Ytjkoambfecmglaa
open Go.RowKit
set_option linter.unusedVariables false
set_option linter.unusedSimpArgs false
set_option maxRecDepth 100000
/-- a list that is the same as another, or ahead of it -/
def NotBehind : List Nat → List Nat → Prop
  | [], _ => True
  | _ :: _, [] => False
  | a :: s, b :: t => a < b ∨ (a = b ∧ NotBehind s t)
theorem SP.Finds.least {s : SP} : ∀ {t : List Nat} {D : Nat} {bs : List Nat}, s.Finds D bs t → ∀ {t' : List Nat}, s.Comp D bs t' → NotBehind t t'
  | [], _, _, _, t', _ => trivial
  | k :: t, _, _, h, t', h' => by
    obtain ⟨h1, h2, h3, h4, h5⟩ := SP.Finds.inv h
    cases t' with
    | nil => have g := SP.Comp.end_ h'; rw [g] at h1; cases h1
    | cons k' t' =>
      obtain ⟨g1, g2, g3⟩ := SP.Comp.inv h'
      rcases Nat.lt_trichotomy k k' with e | e | e
      · exact .inl e
      · subst e; exact .inr ⟨rfl, SP.Finds.least h5 g3⟩
      · exact absurd g3 (h4 k' e g2 _)
/-- the search of an ask -/
abbrev spA (l : List Opv) (dss : List (List Nat)) : SP := spOf l dss (mask (owOf l l.length)) (ahOf l l.length)
theorem sub_mask {ks js : List Nat} {m : Nat} (hm : m ≤ 16) (h1 : ∀ x ∈ ks, x < m) (h2 : ∀ x ∈ js, x < m) : Sub (mask ks) (mask js) = true ↔ ∀ x ∈ ks, x ∈ js := by
  rw [Sub_iff (mask16 hm h2) (mask16 hm h1)]
  constructor
  · intro h x hx
    have := h x (by rw [mask_bit]; exact decide_eq_true hx)
    rw [mask_bit] at this
    exact of_decide_eq_true this
  · intro h i hi
    rw [mask_bit] at hi ⊢
    exact decide_eq_true (h i (of_decide_eq_true hi))
theorem one_mask (k : Nat) : 2 ^ k = mask [k] := by simp [mask]
/-- what may come next in the search is what may come next by the document -/
theorem ok_iff {l : List Opv} {dss : List (List Nat)} (hl : l.length ≤ 10) (hd : dss.length = l.length) {ks : List Nat} (hks : ∀ x ∈ ks, x < l.length) {bs : List Nat} {k : Nat} (hk : k < l.length) :
    (spA l dss).ok (mask ks) bs k = true ↔ ¬ k ∈ ks ∧ Nxt l (ks.map (fun x : Nat => (x : Int))) l[k] l.length ∧ l[k].fit bs (dss[k]'(by omega)) = true := by
  unfold SP.ok
  have h1 : Sub (2 ^ k) (mask ks) = true ↔ k ∈ ks := by
    rw [one_mask, sub_mask (m := l.length) (by omega) (by simpa using hk) hks]; simp
  have e2 : (spA l dss).ah k = mask (befOf l l[k] l.length) := by
    show (ahOf l l.length).getD k 0 = _
    unfold ahOf
    rw [List.getD_eq_getElem?_getD, List.getElem?_map, List.getElem?_range hk]
    simp [hk]
  have h2 : Sub ((spA l dss).ah k) (mask ks) = true ↔ Nxt l (ks.map (fun x : Nat => (x : Int))) l[k] l.length := by
    rw [e2, sub_mask (m := l.length) (by omega) (fun x hx => (befOf_mem.1 hx).1) hks]
    constructor
    · intro h j o hj ho hb
      exact List.mem_map.2 ⟨j, h j (befOf_mem.2 ⟨hj, o, ho, hb⟩), rfl⟩
    · intro h x hx
      obtain ⟨a, o, ho, hb⟩ := befOf_mem.1 hx
      obtain ⟨y, hy, e⟩ := List.mem_map.1 (h x o a ho hb)
      have e' : y = x := Int.ofNat.inj e
      rw [← e']; exact hy
  have e3 : (spA l dss).fit k bs = l[k].fit bs (dss[k]'(by omega)) := by
    show (match l[k]?, dss[k]? with | some p, some ds => p.fit bs ds | _, _ => false) = _
    rw [List.getElem?_eq_getElem hk, List.getElem?_eq_getElem (show k < dss.length by omega)]
  rw [e3, Bool.and_eq_true, Bool.and_eq_true, h2]
  constructor
  · rintro ⟨⟨a, b⟩, c⟩
    refine ⟨fun hin => ?_, b, c⟩
    rw [h1.2 hin] at a; cases a
  · rintro ⟨a, b, c⟩
    refine ⟨⟨?_, b⟩, c⟩
    cases hs : Sub (2 ^ k) (mask ks) with
    | false => rfl
    | true => exact absurd (h1.1 hs) a
theorem eff_at {l : List Opv} {dss : List (List Nat)} (hd : dss.length = l.length) {bs : List Nat} {k : Nat} (hk : k < l.length) : (spA l dss).eff k bs = l[k].eff bs (dss[k]'(by omega)) := by
  show (match l[k]?, dss[k]? with | some p, some ds => p.eff bs ds | _, _ => bs) = _
  rw [List.getElem?_eq_getElem hk, List.getElem?_eq_getElem (show k < dss.length by omega)]
theorem done_iff {l : List Opv} {dss : List (List Nat)} (hl : l.length ≤ 10) {ks : List Nat} (hks : ∀ x ∈ ks, x < l.length) : Sub (spA l dss).A (mask ks) = true ↔ Whl l (ks.map (fun x : Nat => (x : Int))) l.length := by
  show Sub (mask (owOf l l.length)) (mask ks) = true ↔ _
  rw [sub_mask (m := l.length) (by omega) (fun x hx => (owOf_mem.1 hx).1) hks]
  constructor
  · intro h j o hj ho ha
    exact List.mem_map.2 ⟨j, h j (owOf_mem.2 ⟨hj, o, ho, ha⟩), rfl⟩
  · intro h x hx
    obtain ⟨a, o, ho, hb⟩ := owOf_mem.1 hx
    obtain ⟨y, hy, e⟩ := List.mem_map.1 (h x o a ho hb)
    have e' : y = x := Int.ofNat.inj e
    rw [← e']; exact hy
/-- an order of the search is one that the document follows -/
theorem comp_fol {l : List Opv} {dss : List (List Nat)} (hl : l.length ≤ 10) (hd : dss.length = l.length) {first : List Nat} : ∀ (t pre : List Nat) (bs : List Nat), (∀ x ∈ pre, x < l.length) → (spA l dss).Comp (mask pre) bs t → FolR l dss ((pre ++ t).map (fun x : Nat => (x : Int))) first pre.length bs → ∃ bs', FolR l dss ((pre ++ t).map (fun x : Nat => (x : Int))) first (pre ++ t).length bs' ∧ Whl l ((pre ++ t).map (fun x : Nat => (x : Int))) l.length
  | [], pre, bs, hp, hc, hf => by
    have h := SP.Comp.end_ hc
    rw [List.append_nil] at hf ⊢
    exact ⟨bs, hf, (done_iff hl hp).1 h⟩
  | k :: t, pre, bs, hp, hc, hf => by
    · obtain ⟨h1, h2, h3⟩ := SP.Comp.inv hc
      have hk : k < l.length := h1
      obtain ⟨a, b, c⟩ := (ok_iff hl hd hp hk).1 h2
      rw [eff_at hd hk] at h3
      have e1 : mask pre ||| 2 ^ k = mask (pre ++ [k]) := (mask_snoc pre k).symm
      rw [e1] at h3
      have e2 : pre ++ k :: t = (pre ++ [k]) ++ t := by simp
      have htk : ((pre ++ k :: t).map (fun x : Nat => (x : Int))).take pre.length = pre.map (fun x : Nat => (x : Int)) := by
        rw [List.map_append, List.take_append_of_le_length (by simp), List.take_of_length_le (by simp)]
      have hg : Goes l dss ((pre ++ k :: t).map (fun x : Nat => (x : Int))) bs pre.length k l[k] (dss[k]'(by omega)) := by
        refine ⟨by simp, ?_, List.getElem?_eq_getElem hk, List.getElem?_eq_getElem (by omega), ?_, c⟩
        · rw [htk]
          intro hin
          obtain ⟨y, hy, e⟩ := List.mem_map.1 hin
          have e' : y = k := Int.ofNat.inj e
          exact a (by rw [← e']; exact hy)
        · rw [htk]; exact b
      have hf2 := FolR.step hf hg
      have ih := comp_fol hl hd (first := first) t (pre ++ [k]) _ (by
        intro x hx
        rcases List.mem_append.1 hx with h | h
        · exact hp x h
        · rw [List.mem_singleton.1 h]; exact hk) h3
      rw [← e2] at ih
      rw [show (pre ++ [k]).length = pre.length + 1 by simp] at ih
      exact ih hf2
/-- an order that the document follows is one of the search -/
theorem fol_nat {l : List Opv} {dss : List (List Nat)} {ord : List Int} {first : List Nat} : ∀ {i : Nat} {bs : List Nat}, FolR l dss ord first i bs → i ≤ ord.length → ∃ ks : List Nat, ord.take i = ks.map (fun x : Nat => (x : Int)) ∧ ks.length = i ∧ ∀ x ∈ ks, x < l.length
  | 0, _, _, _ => ⟨[], by simp, rfl, by simp⟩
  | i + 1, _, h9, hi => by
    obtain ⟨k, bs, ds, p, hf, hg, e9⟩ := FolR.inv h9
    obtain ⟨ks, h1, h2, h3⟩ := fol_nat hf (by omega)
    obtain ⟨g1, _, g3, _⟩ := hg
    have hk := (List.getElem?_eq_some_iff.1 g3).1
    refine ⟨ks ++ [k], ?_, by simp [h2], fun x hx => ?_⟩
    · rw [List.take_add_one, g1, h1]; simp
    · rcases List.mem_append.1 hx with h | h
      · exact h3 x h
      · rw [List.mem_singleton.1 h]; exact hk
theorem fol_comp {l : List Opv} {dss : List (List Nat)} (hl : l.length ≤ 10) (hd : dss.length = l.length) {first : List Nat} {ord : List Int} {ks : List Nat} (ho : ord = ks.map (fun x : Nat => (x : Int))) (hks : ∀ x ∈ ks, x < l.length) : ∀ {i : Nat} {bs : List Nat}, FolR l dss ord first i bs → i ≤ ks.length → ∀ t, (spA l dss).Comp (mask (ks.take i)) bs t → (spA l dss).Comp 0 first (ks.take i ++ t)
  | 0, _, h9, _, t, hc => by
    have e9 := FolR.zero h9
    subst e9
    simpa [mask] using hc
  | i + 1, _, h9, hi, t, hc => by
    obtain ⟨k, bs, ds, p, hf, hg, e9⟩ := FolR.inv h9
    subst e9
    obtain ⟨g1, g2, g3, g4, g5, g6⟩ := hg
    have hki : ks[i]? = some k := by
      rw [ho, List.getElem?_map] at g1
      cases hx : ks[i]? with
      | none => rw [hx] at g1; cases g1
      | some x => rw [hx] at g1; have := Option.some.inj g1; rw [Int.ofNat.inj this]
    have hk := (List.getElem?_eq_some_iff.1 g3).1
    have hkp : l[k] = p := (List.getElem?_eq_some_iff.1 g3).2
    have hkd : dss[k]'(by omega) = ds := (List.getElem?_eq_some_iff.1 g4).2
    have e1 : ks.take (i + 1) = ks.take i ++ [k] := by rw [List.take_add_one, hki]; rfl
    have hpre : ∀ x ∈ ks.take i, x < l.length := fun x hx => hks x (List.mem_of_mem_take hx)
    have etk : ord.take i = (ks.take i).map (fun x : Nat => (x : Int)) := by rw [ho, List.map_take]
    rw [etk] at g2 g5
    rw [e1, mask_snoc] at hc
    have hc2 : (spA l dss).Comp (mask (ks.take i)) bs (k :: t) := by
      refine .step hk ((ok_iff hl hd hpre hk).2 ⟨fun hin => g2 (List.mem_map.2 ⟨k, hin, rfl⟩), by rw [hkp]; exact g5, by rw [hkp, hkd]; exact g6⟩) ?_
      rw [eff_at hd hk, hkp, hkd]; exact hc
    have := fol_comp hl hd ho hks hf (by omega) (k :: t) hc2
    rw [e1, List.append_assoc]
    exact this
end Go.Proofs.Ytjkoambfecmglaa

namespace Go.Proofs.Ytjkoambfecmglaa
open Go.RowKit
set_option linter.unusedVariables false
set_option linter.unusedSimpArgs false
set_option maxRecDepth 100000
theorem NotBehind.at_ : ∀ {s t : List Nat} (i : Nat), NotBehind s t → s.take i = t.take i → i < s.length → ∃ a b, s[i]? = some a ∧ t[i]? = some b ∧ a ≤ b
  | [], t, i, _, _, h => by simp at h
  | a :: s, [], i, h, _, _ => h.elim
  | a :: s, b :: t, 0, h, _, _ => by
    rcases h with h | ⟨h, _⟩
    · exact ⟨a, b, rfl, rfl, by omega⟩
    · exact ⟨a, b, rfl, rfl, by omega⟩
  | a :: s, b :: t, i + 1, h, e, hl => by
    simp at e
    rcases h with h | ⟨_, h⟩
    · omega
    · obtain ⟨x, y, h1, h2, h3⟩ := NotBehind.at_ i h e.2 (by simpa using hl)
      exact ⟨x, y, by simpa using h1, by simpa using h2, h3⟩
set_option maxHeartbeats 1000000 in
theorem notBehind_any (ao bo : Option Addr) (c c' n m : Nat) (s t : List Nat) (w : World) (hl : s.length = n) (hm : t.length = m) (hn : n ≤ 17592186044416) (hm2 : m ≤ 17592186044416) (h : ZRow w ao (s.map (fun x : Nat => (x : Int)))) (h' : ZRow w bo (t.map (fun x : Nat => (x : Int)))) (hb : NotBehind s t) :
    Calls Try.prog 21 #[.slice ao n c, .slice bo m c'] w fun e w' => e = .returned (.bool true) ∧ ∃ q, w' = w.drewN q := by
  have HL : Hid (s.length = n ∧ t.length = m ∧ NotBehind s t) := ⟨hl, hm, hb⟩
  have HZ : Hid (ZRow w ao (s.map (fun x : Nat => (x : Int))) ∧ ZRow w bo (t.map (fun x : Nat => (x : Int)))) := ⟨h, h'⟩
  clear h h' hl hm hb
  go_enter Try.func21, Try.ntmps21
  go_wp2
  go_loopw [5] (fun i wr => ∃ k q : Nat, k ≤ n ∧ i = .int .i64 k ∧ wr = w.drewN q ∧ Hid (s.take k = t.take k)) (fun i _ => n - (intOf i).toNat)
  case atStart => exact ⟨0, 0, Nat.zero_le _, rfl, rfl, by show _ = _; simp⟩
  case round =>
    obtain ⟨k, q, hk, rfl, rfl, HT⟩ := hrel
    by_cases hlt : k < n
    · obtain ⟨x, y, hx, hy, hxy⟩ := HL.out.2.2.at_ k HT.out (by rw [HL.out.1]; exact hlt)
      have hkt : k < m := by rw [← HL.out.2.1]; exact (List.getElem?_eq_some_iff.1 hy).1
      have n9 : decide ((k : Int) < (n : Int)) = true := decide_eq_true (by omega)
      have n8 : decide ((k : Int) < (m : Int)) = true := decide_eq_true (by omega)
      have n7 : decide ((m : Int) ≤ (k : Int)) = false := decide_eq_false (by omega)
      have n6 : decide ((y : Int) < (x : Int)) = false := decide_eq_false (by omega)
      obtain ⟨b, off, e1, hc⟩ := HZ.out.1.at_ (by intro e; rw [List.map_eq_nil_iff.1 e] at hx; simp at hx)
      obtain ⟨b', off', e2, hd⟩ := HZ.out.2.at_ (by intro e; rw [List.map_eq_nil_iff.1 e] at hy; simp at hy)
      subst e1 e2
      have h1 := hc k (by rw [List.length_map, HL.out.1]; exact hlt)
      have h2 := hd k (by rw [List.length_map, HL.out.2.1]; exact hkt)
      have ex : s[k]'(by rw [HL.out.1]; exact hlt) = x := (List.getElem?_eq_some_iff.1 hx).2
      have ey : t[k]'(by rw [HL.out.2.1]; exact hkt) = y := (List.getElem?_eq_some_iff.1 hy).2
      rw [List.getElem_map, ex] at h1
      rw [List.getElem_map, ey] at h2
      have HS : Hid (x = y → s.take (k + 1) = t.take (k + 1)) := fun e => by rw [List.take_add_one, List.take_add_one, hx, hy, HT.out, e]
      clear hc hd ex ey hx hy
      by_cases hz : x < y
      · have n5 : decide ((x : Int) < (y : Int)) = true := decide_eq_true (by omega)
        go_wp2
        go_quiet (fail)
        go_wp2
        go_quiet (fail)
        go_wp2
        go_ret
        exact ⟨rfl, _, by rw [World.drewN_drewN, World.drewN_drewN]⟩
      · have n5 : decide ((x : Int) < (y : Int)) = false := decide_eq_false (by omega)
        have HS2 : Hid (s.take (k + 1) = t.take (k + 1)) := HS.out (by omega)
        go_wp2
        go_quiet (fail)
        go_wp2
        go_quiet (fail)
        go_wp2
        go_roundw
        case rel => exact ⟨k + 1, _, by omega, by go_num, rfl, HS2⟩
        case measure => simp [intOf]; omega
    · go_wp2
      go_ret
      exact ⟨rfl, _, rfl⟩
end Go.Proofs.Ytjkoambfecmglaa

namespace Go.Proofs.Ytjkoambfecmglaa
open Go.RowKit
set_option linter.unusedVariables false
set_option linter.unusedSimpArgs false
set_option maxRecDepth 100000
theorem Sib.trans {p q r : Opv} (h : Sib p q) (h2 : Sib q r) : Sib p r := by
  unfold Sib at *
  rw [h2]
  congr 1 <;> rw [h]
theorem Sibs.trans {a b c : List Opv} (h : Sibs a b) (h2 : Sibs b c) : Sibs a c :=
  ⟨h2.len.trans h.len, fun k p q hp hq => by
    obtain ⟨x, hx, hs⟩ := h.get hp
    exact hs.trans (h2.sib k x q hx hq)⟩
theorem fol_ok {l : List Opv} {dss : List (List Nat)} {ord : List Int} {first bs : List Nat} {n : Nat} {W : World} {v : Value} {at_ en : Int} (h : FolOut l dss ord first n W v at_ en) (hw : wrg n l = 0) (hf : FolR l dss ord first ord.length bs) (hy : Whl l ord l.length) : en = 0 := by
  rcases h with ⟨h1, _⟩ | ⟨h1, i, bs2, h2, h3, h4, _⟩ | ⟨h1, bs2, h2, h3, h4⟩ | ⟨h1, bs2, co, cc, h2, h3, h4, h5, h6, h7, h8⟩
  · exact absurd hw h1
  · obtain ⟨bs0, k, p, ds, q1, q2⟩ := hf.goes h3
    cases FolR.det h2 q1
    exact absurd q2 (h4 k p ds)
  · exact absurd hy h3
  · exact h8
theorem fol_alive {l l3 : List Opv} {dss : List (List Nat)} {ord : List Int} {first : List Nat} {n : Nat} {W : World} {v : Value} {at_ en : Int} (h : FolOut l3 dss ord first n W v at_ en) (he : en = 0) (hs : Sibs l l3) (hd : dss.length = l.length) : wrg n l = 0 ∧ (l.length ≤ 10 → ∃ ks' : List Nat, ord = ks'.map (fun x : Nat => (x : Int)) ∧ (spA l dss).Comp 0 first ks') := by
  rcases hs.symm.folOut h with ⟨h1, _, _, h4⟩ | ⟨h1, i, bs2, _, _, _, _, _, h7⟩ | ⟨h1, bs2, _, _, _, _, h6⟩ | ⟨h1, bs2, co, cc, h2, h3, _⟩
  · omega
  · omega
  · omega
  · refine ⟨h1, fun hl => ?_⟩
    obtain ⟨ks, k1, k2, k3⟩ := fol_nat h2 (Nat.le_refl _)
    rw [List.take_length] at k1
    refine ⟨ks, k1, ?_⟩
    have h9 := fol_comp hl hd k1 k3 h2 (by omega) [] (by
      rw [← k2, List.take_length]
      refine .done ((done_iff hl k3).2 ?_)
      rw [← k1]; exact h3)
    rw [← k2, List.take_length, List.append_nil] at h9
    exact h9
theorem fol_nodup {l : List Opv} {dss : List (List Nat)} {ord : List Int} {first : List Nat} : ∀ {i : Nat} {bs : List Nat}, FolR l dss ord first i bs → i ≤ ord.length → (ord.take i).Nodup
  | 0, _, _, _ => by simp
  | i + 1, _, h9, hi => by
    obtain ⟨k, bs, ds, p, hf, hg, e9⟩ := FolR.inv h9
    obtain ⟨g1, g2, _⟩ := hg
    rw [List.take_add_one, g1]
    refine List.nodup_append.2 ⟨fol_nodup hf (by omega), by simp, fun a ha b hb e => ?_⟩
    simp at hb
    rw [e, hb] at ha
    exact g2 ha
end Go.Proofs.Ytjkoambfecmglaa

namespace Go.Proofs.Ytjkoambfecmglaa
open Go.RowKit
set_option linter.unusedVariables false
set_option linter.unusedSimpArgs false
set_option maxRecDepth 100000
theorem laidTo_get {bs ds : List Nat} {off m j : Nat} (hb : off + m ≤ bs.length) (hd : m ≤ ds.length) (hj : j < off ∨ off + m ≤ j) : (laidTo bs ds off m)[j]? = bs[j]? := by
  unfold laidTo
  rcases hj with hj | hj
  · rw [List.getElem?_append_left (by rw [List.length_take]; omega), List.getElem?_take, if_pos hj]
  · rw [List.getElem?_append_right (by rw [List.length_take]; omega), List.getElem?_append_right (by rw [List.length_take, List.length_take]; omega), List.getElem?_drop]
    congr 1
    rw [List.length_take, List.length_take]; omega
theorem prt_congr {xs ys : List Nat} {s : Nat} (h : ∀ j, s * 512 ≤ j → j < (s + 1) * 512 → xs[j]? = ys[j]?) : prt xs s = prt ys s := by
  apply List.ext_getElem?
  intro j
  unfold prt
  rw [List.getElem?_take, List.getElem?_take, List.getElem?_drop, List.getElem?_drop]
  split
  · exact h _ (by omega) (by omega)
  · rfl
/-- does an operation reach a sector? -/
def Opv.meets (p : Opv) (s : Nat) : Bool := p.k == 4 || (decide (0 < p.len) && (decide (p.off < ((s : Int) + 1) * 512) && decide ((s : Int) * 512 < p.off + p.len)))
theorem meets_iff {p : Opv} {n s : Nat} (hM : p.May n) (hs : s < secs n) : p.meets s = true ↔ rlo p.k p.off.toNat p.len.toNat ≤ s ∧ s < rhi n p.k p.off.toNat p.len.toNat := by
  have h1 := hM.off0; have h2 := hM.len0; have h3 := hM.lenn
  unfold Opv.meets rlo rhi
  by_cases hk : p.k = 4
  · rw [if_pos hk, if_pos hk]
    simp [hk, hs]
  · rw [if_neg hk, if_neg hk]
    have e1 : (p.k == 4) = false := by rw [beq_eq_false_iff_ne]; exact hk
    rw [e1, Bool.false_or, Bool.and_eq_true, Bool.and_eq_true, decide_eq_true_iff, decide_eq_true_iff, decide_eq_true_iff]
    obtain ⟨off, ho⟩ := Int.eq_ofNat_of_zero_le h1
    obtain ⟨m, hm⟩ := Int.eq_ofNat_of_zero_le h2
    rw [ho, hm]
    simp only [Int.toNat_natCast]
    by_cases h0 : m = 0
    · rw [if_pos h0, if_pos h0]; omega
    · rw [if_neg h0, if_neg h0]; omega
theorem eff_prt {p : Opv} {n s : Nat} {bs ds : List Nat} (hM : p.May n) (hn : bs.length = n) (hd : ds.length = p.n) (h : p.meets s = false) : prt (p.eff bs ds) s = prt bs s := by
  have h1 := hM.off0; have h2 := hM.len0; have h3 := hM.lenn; have h4 := hM.da
  unfold Opv.meets at h
  rw [Bool.or_eq_false_iff] at h
  have h5 : 0 < p.len → p.off < ((s : Int) + 1) * 512 → ¬ (s : Int) * 512 < p.off + p.len := fun a b c => by
    have h6 := h.2
    rw [decide_eq_true a, decide_eq_true b, decide_eq_true c] at h6
    cases h6
  obtain ⟨off, ho⟩ := Int.eq_ofNat_of_zero_le h1
  obtain ⟨m, hm⟩ := Int.eq_ofNat_of_zero_le h2
  rw [ho, hm] at h5 h3
  have h6 : ∀ j, s * 512 ≤ j → j < (s + 1) * 512 → j < off ∨ off + m ≤ j := fun j ha hb => by
    by_cases h0 : m = 0
    · omega
    · have := h5 (by omega)
      omega
  unfold Opv.eff
  rw [ho, hm]
  simp only [Int.toNat_natCast]
  by_cases hk2 : p.k = 2
  · rw [if_pos hk2]
    rw [if_pos (.inl hk2), hm] at h4
    exact prt_congr fun j ha hb => laidTo_get (by omega) (by omega) (h6 j ha hb)
  · rw [if_neg hk2]
    by_cases hk3 : p.k = 3
    · rw [if_pos hk3]
      exact prt_congr fun j ha hb => laidTo_get (by omega) (by simp) (h6 j ha hb)
    · rw [if_neg hk3]
/-- is place i of the order one that makes a sector safe? -/
def hitAt (l : List Opv) (ord : List Int) (s i : Nat) : Bool := match ord[i]? with
  | some z => (match l[z.toNat]? with
    | some p => p.sy && p.meets s
    | none => false)
  | none => false
/-- how many operations must be there -/
def flr (l : List Opv) (ord : List Int) (s : Nat) : Nat → Nat
  | 0 => 0
  | i + 1 => if hitAt l ord s i then i + 1 else flr l ord s i
theorem flr_le (l : List Opv) (ord : List Int) (s : Nat) : ∀ i, flr l ord s i ≤ i
  | 0 => Nat.le_refl _
  | i + 1 => by
    unfold flr
    split
    · exact Nat.le_refl _
    · exact Nat.le_succ_of_le (flr_le l ord s i)
theorem hitAt_goes {l : List Opv} {dss : List (List Nat)} {ord : List Int} {bs ds : List Nat} {i k : Nat} {p : Opv} (h : Goes l dss ord bs i k p ds) (s : Nat) : hitAt l ord s i = (p.sy && p.meets s) := by
  unfold hitAt
  rw [h.1]
  show (match l[k]? with | some p => p.sy && p.meets s | none => false) = _
  rw [h.2.2.1]
/-- a sector may be so: it was so at some moment since it was safe -/
def Okay (l : List Opv) (dss : List (List Nat)) (ord : List Int) (first after : List Nat) (s i : Nat) : Prop := ∃ j, flr l ord s i ≤ j ∧ j ≤ i ∧ ∃ bs, FolR l dss ord first j bs ∧ prt bs s = prt after s
/-- of each sector whether it may be so -/
structure Mays (l : List Opv) (dss : List (List Nat)) (ord : List Int) (first after : List Nat) (S i : Nat) (may : List Bool) : Prop where
  len : may.length = S
  iff : ∀ s b, may[s]? = some b → (b = true ↔ Okay l dss ord first after s i)
theorem Mays.start (l : List Opv) (dss : List (List Nat)) (ord : List Int) (first after : List Nat) (S : Nat) : Mays l dss ord first after S 0 (may0 S first after) where
  len := may0_len _ _ _
  iff s b h := by
    have hs : s < S := by have := (List.getElem?_eq_some_iff.1 h).1; rwa [may0_len] at this
    rw [may0_get hs] at h
    cases h
    unfold mayF
    rw [decide_eq_true_iff]
    constructor
    · intro h; exact ⟨0, Nat.le_refl _, Nat.le_refl _, first, .nil, h⟩
    · rintro ⟨j, _, h2, bs, h3, h4⟩
      obtain rfl : j = 0 := by omega
      have e := FolR.zero h3
      subst e; exact h4
theorem FolR.blen {l : List Opv} {dss : List (List Nat)} {ord : List Int} {first : List Nat} {n : Nat} (hn : first.length = n) (hm : ∀ (k : Nat) (p : Opv), l[k]? = some p → p.may n = true) (hd : ∀ (k : Nat) (p : Opv) (ds : List Nat), l[k]? = some p → dss[k]? = some ds → ds.length = p.n) : ∀ {i : Nat} {bs : List Nat}, FolR l dss ord first i bs → bs.length = n
  | 0, _, h => by rw [FolR.zero h]; exact hn
  | i + 1, _, h => by
    obtain ⟨k, bs, ds, p, hf, hg, e⟩ := FolR.inv h
    subst e
    exact eff_len (hm _ _ hg.2.2.1) (FolR.blen hn hm hd hf) (hd _ _ _ hg.2.2.1 hg.2.2.2.1)
theorem Mays.step {l : List Opv} {dss : List (List Nat)} {ord : List Int} {first after : List Nat} {n i k : Nat} {may : List Bool} {bs ds : List Nat} {p : Opv} (h : Mays l dss ord first after (secs n) i may) (hf : FolR l dss ord first i bs) (hg : Goes l dss ord bs i k p ds) (hM : p.May n) (hn : bs.length = n) (hd : ds.length = p.n) :
    Mays l dss ord first after (secs n) (i + 1) (updM may (rlo p.k p.off.toNat p.len.toNat) (rhi n p.k p.off.toNat p.len.toNat) (seeF may p.sy (p.eff bs ds) after)) where
  len := by rw [updM_len, h.len]
  iff s b hb := by
    have hs : s < secs n := by have := (List.getElem?_eq_some_iff.1 hb).1; rw [updM_len, h.len] at this; exact this
    have hsl : s < may.length := by rw [h.len]; exact hs
    obtain ⟨c, hc⟩ : ∃ c, may[s]? = some c := ⟨_, List.getElem?_eq_getElem hsl⟩
    have hcd : may.getD s false = c := by rw [List.getD_eq_getElem?_getD, hc]; rfl
    have ih := h.iff s c hc
    rw [updM_get, if_pos hsl, hcd] at hb
    have hb := Option.some.inj hb
    have hit := hitAt_goes hg s
    have hfl := flr_le l ord s i
    have hnew : FolR l dss ord first (i + 1) (p.eff bs ds) := .step hf hg
    have hlast : ∀ {bs2}, FolR l dss ord first (i + 1) bs2 → bs2 = p.eff bs ds := fun h2 => FolR.det h2 hnew
    have hme := meets_iff hM hs
    cases hmt : p.meets s with
    | true =>
      rw [if_pos (hme.1 hmt)] at hb
      unfold seeF at hb
      rw [hcd] at hb
      rw [← hb]
      cases hsy : p.sy with
      | true =>
        have e1 : flr l ord s (i + 1) = i + 1 := by unfold flr; rw [hit, hsy, hmt]; rfl
        simp only [Bool.not_true, Bool.and_false, Bool.false_or, decide_eq_true_iff]
        constructor
        · intro h2; exact ⟨i + 1, by omega, Nat.le_refl _, _, hnew, h2⟩
        · rintro ⟨j, h2, h3, bs2, h4, h5⟩
          obtain rfl : j = i + 1 := by omega
          rw [hlast h4] at h5; exact h5
      | false =>
        have e1 : flr l ord s (i + 1) = flr l ord s i := by
          show (if hitAt l ord s i then i + 1 else flr l ord s i) = _
          rw [hit, hsy]; rfl
        simp only [Bool.not_false, Bool.and_true, Bool.or_eq_true, decide_eq_true_iff]
        constructor
        · rintro (h2 | h2)
          · obtain ⟨j, h3, h4, h5⟩ := ih.1 h2
            exact ⟨j, by omega, by omega, h5⟩
          · exact ⟨i + 1, by omega, Nat.le_refl _, _, hnew, h2⟩
        · rintro ⟨j, h2, h3, bs2, h4, h5⟩
          rcases Nat.lt_or_ge i j with h6 | h6
          · obtain rfl : j = i + 1 := by omega
            right; rw [hlast h4] at h5; exact h5
          · left; exact ih.2 ⟨j, by omega, h6, bs2, h4, h5⟩
    | false =>
      have hno : ¬ (rlo p.k p.off.toNat p.len.toNat ≤ s ∧ s < rhi n p.k p.off.toNat p.len.toNat) := fun h2 => by rw [hme.2 h2] at hmt; cases hmt
      rw [if_neg hno] at hb
      rw [← hb]
      have e1 : flr l ord s (i + 1) = flr l ord s i := by
        show (if hitAt l ord s i then i + 1 else flr l ord s i) = _
        rw [hit, hmt, Bool.and_false]; rfl
      have hpr := eff_prt (s := s) hM hn hd hmt
      constructor
      · intro h2
        obtain ⟨j, h3, h4, h5⟩ := ih.1 h2
        exact ⟨j, by omega, by omega, h5⟩
      · rintro ⟨j, h2, h3, bs2, h4, h5⟩
        rcases Nat.lt_or_ge i j with h6 | h6
        · obtain rfl : j = i + 1 := by omega
          rw [hlast h4, hpr] at h5
          exact ih.2 ⟨i, hfl, Nat.le_refl _, bs, hf, h5⟩
        · exact ih.2 ⟨j, by omega, h6, bs2, h4, h5⟩
/-- an order that is followed to its end -/
def Follows (l : List Opv) (dss : List (List Nat)) (ord : List Int) (first : List Nat) : Prop := ∃ bs, FolR l dss ord first ord.length bs ∧ Whl l ord l.length
/-- what Survives answers -/
def SvOut (l : List Opv) (dss : List (List Nat)) (ord : List Int) (first after : List Nat) (n s : Nat) (ok : Bool) (en : Nat) : Prop :=
  (wrg n l ≠ 0 ∧ s = 0 ∧ ok = false ∧ en = wrg n l) ∨
  (wrg n l = 0 ∧ (after.length ≠ n ∨ ¬ Follows l dss ord first) ∧ s = 0 ∧ ok = false ∧ en = 172) ∨
  (wrg n l = 0 ∧ after.length = n ∧ Follows l dss ord first ∧ en = 0 ∧ ok = false ∧ s < secs n ∧ ¬ Okay l dss ord first after s ord.length ∧ ∀ j, j < s → Okay l dss ord first after j ord.length) ∨
  (wrg n l = 0 ∧ after.length = n ∧ Follows l dss ord first ∧ en = 0 ∧ ok = true ∧ s = 0 ∧ ∀ j, j < secs n → Okay l dss ord first after j ord.length)
def SvEnd (l : List Opv) (dss : List (List Nat)) (ord : List Int) (first after : List Nat) (n : Nat) (w : World) (e : Ending) (w' : World) : Prop :=
  ∃ (s : Nat) (ok : Bool) (en : Nat), e = .returned (.tuple #[.int .i64 (s : Int), .bool ok, .int .i64 (en : Int)]) ∧ SvOut l dss ord first after n s ok en ∧ Below w.heap.size w w'
theorem SvEnd.mk {l : List Opv} {dss : List (List Nat)} {ord : List Int} {first after : List Nat} {n : Nat} {w w' : World} {e : Ending} (s : Nat) (ok : Bool) (en : Nat) (h1 : e = .returned (.tuple #[.int .i64 (s : Int), .bool ok, .int .i64 (en : Int)])) (h2 : SvOut l dss ord first after n s ok en) (h3 : Below w.heap.size w w') : SvEnd l dss ord first after n w e w' := ⟨s, ok, en, h1, h2, h3⟩
theorem SvOut.det {l : List Opv} {dss : List (List Nat)} {ord : List Int} {first after : List Nat} {n s s' : Nat} {ok ok' : Bool} {en en' : Nat} (h : SvOut l dss ord first after n s ok en) (h' : SvOut l dss ord first after n s' ok' en') : s = s' ∧ ok = ok' ∧ en = en' := by
  rcases h with ⟨a1, a2, a3, a4⟩ | ⟨a1, a2, a3, a4, a5⟩ | ⟨a1, a2, a3, a4, a5, a6, a7, a8⟩ | ⟨a1, a2, a3, a4, a5, a6, a7⟩ <;> rcases h' with ⟨b1, b2, b3, b4⟩ | ⟨b1, b2, b3, b4, b5⟩ | ⟨b1, b2, b3, b4, b5, b6, b7, b8⟩ | ⟨b1, b2, b3, b4, b5, b6, b7⟩
  all_goals first
    | exact absurd b1 a1
    | exact absurd a1 b1
    | (rcases a2 with h | h; exact absurd b2 h; exact absurd b3 h)
    | (rcases b2 with h | h; exact absurd a2 h; exact absurd a3 h)
    | exact absurd (b7 s a6) a7
    | exact absurd (a7 s' b6) b7
    | (have e : s = s' := by
        rcases Nat.lt_trichotomy s s' with e | e | e
        · exact absurd (b8 s e) a7
        · exact e
        · exact absurd (a8 s' e) b7
       exact ⟨e, by rw [a5, b5], by rw [a4, b4]⟩)
    | exact ⟨by rw [a2, b2], by rw [a3, b3], by rw [a4, b4]⟩
    | exact ⟨by rw [a3, b3], by rw [a4, b4], by rw [a5, b5]⟩
    | exact ⟨by rw [a6, b6], by rw [a5, b5], by rw [a4, b4]⟩
end Go.Proofs.Ytjkoambfecmglaa
