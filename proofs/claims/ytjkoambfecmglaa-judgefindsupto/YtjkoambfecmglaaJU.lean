import Derived.Test.YtjkoambfecmglaaJP
import Derived.Test.YtjkoambfecmglaaVSvz
namespace Go.Proofs.Ytjkoambfecmglaa
open Go.RowKit
set_option linter.unusedVariables false
set_option linter.unusedSimpArgs false
set_option maxRecDepth 100000
/-- a list that is the same as another, or ahead of it -/
def NotBehind : List Nat → List Nat → Prop
  | [], _ => True
  | _ :: _, [] => False
  | a :: s, b :: t => a < b ∨ (a = b ∧ NotBehind s t)
theorem SP.Finds.least {s : SP} : ∀ {t : List Nat} {D : Nat} {bs : List Nat}, s.Finds D bs t → ∀ {t' : List Nat}, s.Comp D bs t' → NotBehind t t'
  | [], _, _, _, t', _ => trivial
  | k :: t, _, _, h, t', h' => by
    obtain ⟨h1, h2, h3, h4, h5⟩ := SP.Finds.inv h
    cases t' with
    | nil => have g := SP.Comp.end_ h'; rw [g] at h1; cases h1
    | cons k' t' =>
      obtain ⟨g1, g2, g3⟩ := SP.Comp.inv h'
      rcases Nat.lt_trichotomy k k' with e | e | e
      · exact .inl e
      · subst e; exact .inr ⟨rfl, SP.Finds.least h5 g3⟩
      · exact absurd g3 (h4 k' e g2 _)
/-- the search of an ask -/
abbrev spA (l : List Opv) (dss : List (List Nat)) : SP := spOf l dss (mask (owOf l l.length)) (ahOf l l.length)
theorem sub_mask {ks js : List Nat} {m : Nat} (hm : m ≤ 16) (h1 : ∀ x ∈ ks, x < m) (h2 : ∀ x ∈ js, x < m) : Sub (mask ks) (mask js) = true ↔ ∀ x ∈ ks, x ∈ js := by
  rw [Sub_iff (mask16 hm h2) (mask16 hm h1)]
  constructor
  · intro h x hx
    have := h x (by rw [mask_bit]; exact decide_eq_true hx)
    rw [mask_bit] at this
    exact of_decide_eq_true this
  · intro h i hi
    rw [mask_bit] at hi ⊢
    exact decide_eq_true (h i (of_decide_eq_true hi))
theorem one_mask (k : Nat) : 2 ^ k = mask [k] := by simp [mask]
/-- what may come next in the search is what may come next by the document -/
theorem ok_iff {l : List Opv} {dss : List (List Nat)} (hl : l.length ≤ 10) (hd : dss.length = l.length) {ks : List Nat} (hks : ∀ x ∈ ks, x < l.length) {bs : List Nat} {k : Nat} (hk : k < l.length) :
    (spA l dss).ok (mask ks) bs k = true ↔ ¬ k ∈ ks ∧ Nxt l (ks.map (fun x : Nat => (x : Int))) l[k] l.length ∧ l[k].fit bs (dss[k]'(by omega)) = true := by
  unfold SP.ok
  have h1 : Sub (2 ^ k) (mask ks) = true ↔ k ∈ ks := by
    rw [one_mask, sub_mask (m := l.length) (by omega) (by simpa using hk) hks]; simp
  have e2 : (spA l dss).ah k = mask (befOf l l[k] l.length) := by
    show (ahOf l l.length).getD k 0 = _
    unfold ahOf
    rw [List.getD_eq_getElem?_getD, List.getElem?_map, List.getElem?_range hk]
    simp [hk]
  have h2 : Sub ((spA l dss).ah k) (mask ks) = true ↔ Nxt l (ks.map (fun x : Nat => (x : Int))) l[k] l.length := by
    rw [e2, sub_mask (m := l.length) (by omega) (fun x hx => (befOf_mem.1 hx).1) hks]
    constructor
    · intro h j o hj ho hb
      exact List.mem_map.2 ⟨j, h j (befOf_mem.2 ⟨hj, o, ho, hb⟩), rfl⟩
    · intro h x hx
      obtain ⟨a, o, ho, hb⟩ := befOf_mem.1 hx
      obtain ⟨y, hy, e⟩ := List.mem_map.1 (h x o a ho hb)
      have e' : y = x := Int.ofNat.inj e
      rw [← e']; exact hy
  have e3 : (spA l dss).fit k bs = l[k].fit bs (dss[k]'(by omega)) := by
    show (match l[k]?, dss[k]? with | some p, some ds => p.fit bs ds | _, _ => false) = _
    rw [List.getElem?_eq_getElem hk, List.getElem?_eq_getElem (show k < dss.length by omega)]
  rw [e3, Bool.and_eq_true, Bool.and_eq_true, h2]
  constructor
  · rintro ⟨⟨a, b⟩, c⟩
    refine ⟨fun hin => ?_, b, c⟩
    rw [h1.2 hin] at a; cases a
  · rintro ⟨a, b, c⟩
    refine ⟨⟨?_, b⟩, c⟩
    cases hs : Sub (2 ^ k) (mask ks) with
    | false => rfl
    | true => exact absurd (h1.1 hs) a
theorem eff_at {l : List Opv} {dss : List (List Nat)} (hd : dss.length = l.length) {bs : List Nat} {k : Nat} (hk : k < l.length) : (spA l dss).eff k bs = l[k].eff bs (dss[k]'(by omega)) := by
  show (match l[k]?, dss[k]? with | some p, some ds => p.eff bs ds | _, _ => bs) = _
  rw [List.getElem?_eq_getElem hk, List.getElem?_eq_getElem (show k < dss.length by omega)]
theorem done_iff {l : List Opv} {dss : List (List Nat)} (hl : l.length ≤ 10) {ks : List Nat} (hks : ∀ x ∈ ks, x < l.length) : Sub (spA l dss).A (mask ks) = true ↔ Whl l (ks.map (fun x : Nat => (x : Int))) l.length := by
  show Sub (mask (owOf l l.length)) (mask ks) = true ↔ _
  rw [sub_mask (m := l.length) (by omega) (fun x hx => (owOf_mem.1 hx).1) hks]
  constructor
  · intro h j o hj ho ha
    exact List.mem_map.2 ⟨j, h j (owOf_mem.2 ⟨hj, o, ho, ha⟩), rfl⟩
  · intro h x hx
    obtain ⟨a, o, ho, hb⟩ := owOf_mem.1 hx
    obtain ⟨y, hy, e⟩ := List.mem_map.1 (h x o a ho hb)
    have e' : y = x := Int.ofNat.inj e
    rw [← e']; exact hy
/-- an order of the search is one that the document follows -/
theorem comp_fol {l : List Opv} {dss : List (List Nat)} (hl : l.length ≤ 10) (hd : dss.length = l.length) {first : List Nat} : ∀ (t pre : List Nat) (bs : List Nat), (∀ x ∈ pre, x < l.length) → (spA l dss).Comp (mask pre) bs t → FolR l dss ((pre ++ t).map (fun x : Nat => (x : Int))) first pre.length bs → ∃ bs', FolR l dss ((pre ++ t).map (fun x : Nat => (x : Int))) first (pre ++ t).length bs' ∧ Whl l ((pre ++ t).map (fun x : Nat => (x : Int))) l.length
  | [], pre, bs, hp, hc, hf => by
    have h := SP.Comp.end_ hc
    rw [List.append_nil] at hf ⊢
    exact ⟨bs, hf, (done_iff hl hp).1 h⟩
  | k :: t, pre, bs, hp, hc, hf => by
    · obtain ⟨h1, h2, h3⟩ := SP.Comp.inv hc
      have hk : k < l.length := h1
      obtain ⟨a, b, c⟩ := (ok_iff hl hd hp hk).1 h2
      rw [eff_at hd hk] at h3
      have e1 : mask pre ||| 2 ^ k = mask (pre ++ [k]) := (mask_snoc pre k).symm
      rw [e1] at h3
      have e2 : pre ++ k :: t = (pre ++ [k]) ++ t := by simp
      have htk : ((pre ++ k :: t).map (fun x : Nat => (x : Int))).take pre.length = pre.map (fun x : Nat => (x : Int)) := by
        rw [List.map_append, List.take_append_of_le_length (by simp), List.take_of_length_le (by simp)]
      have hg : Goes l dss ((pre ++ k :: t).map (fun x : Nat => (x : Int))) bs pre.length k l[k] (dss[k]'(by omega)) := by
        refine ⟨by simp, ?_, List.getElem?_eq_getElem hk, List.getElem?_eq_getElem (by omega), ?_, c⟩
        · rw [htk]
          intro hin
          obtain ⟨y, hy, e⟩ := List.mem_map.1 hin
          have e' : y = k := Int.ofNat.inj e
          exact a (by rw [← e']; exact hy)
        · rw [htk]; exact b
      have hf2 := FolR.step hf hg
      have ih := comp_fol hl hd (first := first) t (pre ++ [k]) _ (by
        intro x hx
        rcases List.mem_append.1 hx with h | h
        · exact hp x h
        · rw [List.mem_singleton.1 h]; exact hk) h3
      rw [← e2] at ih
      rw [show (pre ++ [k]).length = pre.length + 1 by simp] at ih
      exact ih hf2
/-- an order that the document follows is one of the search -/
theorem fol_nat {l : List Opv} {dss : List (List Nat)} {ord : List Int} {first : List Nat} : ∀ {i : Nat} {bs : List Nat}, FolR l dss ord first i bs → i ≤ ord.length → ∃ ks : List Nat, ord.take i = ks.map (fun x : Nat => (x : Int)) ∧ ks.length = i ∧ ∀ x ∈ ks, x < l.length
  | 0, _, _, _ => ⟨[], by simp, rfl, by simp⟩
  | i + 1, _, h9, hi => by
    obtain ⟨k, bs, ds, p, hf, hg, e9⟩ := FolR.inv h9
    obtain ⟨ks, h1, h2, h3⟩ := fol_nat hf (by omega)
    obtain ⟨g1, _, g3, _⟩ := hg
    have hk := (List.getElem?_eq_some_iff.1 g3).1
    refine ⟨ks ++ [k], ?_, by simp [h2], fun x hx => ?_⟩
    · rw [List.take_add_one, g1, h1]; simp
    · rcases List.mem_append.1 hx with h | h
      · exact h3 x h
      · rw [List.mem_singleton.1 h]; exact hk
theorem fol_comp {l : List Opv} {dss : List (List Nat)} (hl : l.length ≤ 10) (hd : dss.length = l.length) {first : List Nat} {ord : List Int} {ks : List Nat} (ho : ord = ks.map (fun x : Nat => (x : Int))) (hks : ∀ x ∈ ks, x < l.length) : ∀ {i : Nat} {bs : List Nat}, FolR l dss ord first i bs → i ≤ ks.length → ∀ t, (spA l dss).Comp (mask (ks.take i)) bs t → (spA l dss).Comp 0 first (ks.take i ++ t)
  | 0, _, h9, _, t, hc => by
    have e9 := FolR.zero h9
    subst e9
    simpa [mask] using hc
  | i + 1, _, h9, hi, t, hc => by
    obtain ⟨k, bs, ds, p, hf, hg, e9⟩ := FolR.inv h9
    subst e9
    obtain ⟨g1, g2, g3, g4, g5, g6⟩ := hg
    have hki : ks[i]? = some k := by
      rw [ho, List.getElem?_map] at g1
      cases hx : ks[i]? with
      | none => rw [hx] at g1; cases g1
      | some x => rw [hx] at g1; have := Option.some.inj g1; rw [Int.ofNat.inj this]
    have hk := (List.getElem?_eq_some_iff.1 g3).1
    have hkp : l[k] = p := (List.getElem?_eq_some_iff.1 g3).2
    have hkd : dss[k]'(by omega) = ds := (List.getElem?_eq_some_iff.1 g4).2
    have e1 : ks.take (i + 1) = ks.take i ++ [k] := by rw [List.take_add_one, hki]; rfl
    have hpre : ∀ x ∈ ks.take i, x < l.length := fun x hx => hks x (List.mem_of_mem_take hx)
    have etk : ord.take i = (ks.take i).map (fun x : Nat => (x : Int)) := by rw [ho, List.map_take]
    rw [etk] at g2 g5
    rw [e1, mask_snoc] at hc
    have hc2 : (spA l dss).Comp (mask (ks.take i)) bs (k :: t) := by
      refine .step hk ((ok_iff hl hd hpre hk).2 ⟨fun hin => g2 (List.mem_map.2 ⟨k, hin, rfl⟩), by rw [hkp]; exact g5, by rw [hkp, hkd]; exact g6⟩) ?_
      rw [eff_at hd hk, hkp, hkd]; exact hc
    have := fol_comp hl hd ho hks hf (by omega) (k :: t) hc2
    rw [e1, List.append_assoc]
    exact this
end Go.Proofs.Ytjkoambfecmglaa

namespace Go.Proofs.Ytjkoambfecmglaa
open Go.RowKit
set_option linter.unusedVariables false
set_option linter.unusedSimpArgs false
set_option maxRecDepth 100000
theorem NotBehind.at_ : ∀ {s t : List Nat} (i : Nat), NotBehind s t → s.take i = t.take i → i < s.length → ∃ a b, s[i]? = some a ∧ t[i]? = some b ∧ a ≤ b
  | [], t, i, _, _, h => by simp at h
  | a :: s, [], i, h, _, _ => h.elim
  | a :: s, b :: t, 0, h, _, _ => by
    rcases h with h | ⟨h, _⟩
    · exact ⟨a, b, rfl, rfl, by omega⟩
    · exact ⟨a, b, rfl, rfl, by omega⟩
  | a :: s, b :: t, i + 1, h, e, hl => by
    simp at e
    rcases h with h | ⟨_, h⟩
    · omega
    · obtain ⟨x, y, h1, h2, h3⟩ := NotBehind.at_ i h e.2 (by simpa using hl)
      exact ⟨x, y, by simpa using h1, by simpa using h2, h3⟩
set_option maxHeartbeats 1000000 in
theorem notBehind_any (ao bo : Option Addr) (c c' n m : Nat) (s t : List Nat) (w : World) (hl : s.length = n) (hm : t.length = m) (hn : n ≤ 17592186044416) (hm2 : m ≤ 17592186044416) (h : ZRow w ao (s.map (fun x : Nat => (x : Int)))) (h' : ZRow w bo (t.map (fun x : Nat => (x : Int)))) (hb : NotBehind s t) :
    Calls Try.prog 21 #[.slice ao n c, .slice bo m c'] w fun e w' => e = .returned (.bool true) ∧ ∃ q, w' = w.drewN q := by
  have HL : Hid (s.length = n ∧ t.length = m ∧ NotBehind s t) := ⟨hl, hm, hb⟩
  have HZ : Hid (ZRow w ao (s.map (fun x : Nat => (x : Int))) ∧ ZRow w bo (t.map (fun x : Nat => (x : Int)))) := ⟨h, h'⟩
  clear h h' hl hm hb
  go_enter Try.func21, Try.ntmps21
  go_wp2
  go_loopw [5] (fun i wr => ∃ k q : Nat, k ≤ n ∧ i = .int .i64 k ∧ wr = w.drewN q ∧ Hid (s.take k = t.take k)) (fun i _ => n - (intOf i).toNat)
  case atStart => exact ⟨0, 0, Nat.zero_le _, rfl, rfl, by show _ = _; simp⟩
  case round =>
    obtain ⟨k, q, hk, rfl, rfl, HT⟩ := hrel
    by_cases hlt : k < n
    · obtain ⟨x, y, hx, hy, hxy⟩ := HL.out.2.2.at_ k HT.out (by rw [HL.out.1]; exact hlt)
      have hkt : k < m := by rw [← HL.out.2.1]; exact (List.getElem?_eq_some_iff.1 hy).1
      have n9 : decide ((k : Int) < (n : Int)) = true := decide_eq_true (by omega)
      have n8 : decide ((k : Int) < (m : Int)) = true := decide_eq_true (by omega)
      have n7 : decide ((m : Int) ≤ (k : Int)) = false := decide_eq_false (by omega)
      have n6 : decide ((y : Int) < (x : Int)) = false := decide_eq_false (by omega)
      obtain ⟨b, off, e1, hc⟩ := HZ.out.1.at_ (by intro e; rw [List.map_eq_nil_iff.1 e] at hx; simp at hx)
      obtain ⟨b', off', e2, hd⟩ := HZ.out.2.at_ (by intro e; rw [List.map_eq_nil_iff.1 e] at hy; simp at hy)
      subst e1 e2
      have h1 := hc k (by rw [List.length_map, HL.out.1]; exact hlt)
      have h2 := hd k (by rw [List.length_map, HL.out.2.1]; exact hkt)
      have ex : s[k]'(by rw [HL.out.1]; exact hlt) = x := (List.getElem?_eq_some_iff.1 hx).2
      have ey : t[k]'(by rw [HL.out.2.1]; exact hkt) = y := (List.getElem?_eq_some_iff.1 hy).2
      rw [List.getElem_map, ex] at h1
      rw [List.getElem_map, ey] at h2
      have HS : Hid (x = y → s.take (k + 1) = t.take (k + 1)) := fun e => by rw [List.take_add_one, List.take_add_one, hx, hy, HT.out, e]
      clear hc hd ex ey hx hy
      by_cases hz : x < y
      · have n5 : decide ((x : Int) < (y : Int)) = true := decide_eq_true (by omega)
        go_wp2
        go_quiet (fail)
        go_wp2
        go_quiet (fail)
        go_wp2
        go_ret
        exact ⟨rfl, _, by rw [World.drewN_drewN, World.drewN_drewN]⟩
      · have n5 : decide ((x : Int) < (y : Int)) = false := decide_eq_false (by omega)
        have HS2 : Hid (s.take (k + 1) = t.take (k + 1)) := HS.out (by omega)
        go_wp2
        go_quiet (fail)
        go_wp2
        go_quiet (fail)
        go_wp2
        go_roundw
        case rel => exact ⟨k + 1, _, by omega, by go_num, rfl, HS2⟩
        case measure => simp [intOf]; omega
    · go_wp2
      go_ret
      exact ⟨rfl, _, rfl⟩
end Go.Proofs.Ytjkoambfecmglaa

namespace Go.Proofs.Ytjkoambfecmglaa
open Go.RowKit
set_option linter.unusedVariables false
set_option linter.unusedSimpArgs false
set_option maxRecDepth 100000
theorem Sib.trans {p q r : Opv} (h : Sib p q) (h2 : Sib q r) : Sib p r := by
  unfold Sib at *
  rw [h2]
  congr 1 <;> rw [h]
theorem Sibs.trans {a b c : List Opv} (h : Sibs a b) (h2 : Sibs b c) : Sibs a c :=
  ⟨h2.len.trans h.len, fun k p q hp hq => by
    obtain ⟨x, hx, hs⟩ := h.get hp
    exact hs.trans (h2.sib k x q hx hq)⟩
theorem fol_ok {l : List Opv} {dss : List (List Nat)} {ord : List Int} {first bs : List Nat} {n : Nat} {W : World} {v : Value} {at_ en : Int} (h : FolOut l dss ord first n W v at_ en) (hw : wrg n l = 0) (hf : FolR l dss ord first ord.length bs) (hy : Whl l ord l.length) : en = 0 := by
  rcases h with ⟨h1, _⟩ | ⟨h1, i, bs2, h2, h3, h4, _⟩ | ⟨h1, bs2, h2, h3, h4⟩ | ⟨h1, bs2, co, cc, h2, h3, h4, h5, h6, h7, h8⟩
  · exact absurd hw h1
  · obtain ⟨bs0, k, p, ds, q1, q2⟩ := hf.goes h3
    cases FolR.det h2 q1
    exact absurd q2 (h4 k p ds)
  · exact absurd hy h3
  · exact h8
theorem fol_alive {l l3 : List Opv} {dss : List (List Nat)} {ord : List Int} {first : List Nat} {n : Nat} {W : World} {v : Value} {at_ en : Int} (h : FolOut l3 dss ord first n W v at_ en) (he : en = 0) (hs : Sibs l l3) (hd : dss.length = l.length) : wrg n l = 0 ∧ (l.length ≤ 10 → ∃ ks' : List Nat, ord = ks'.map (fun x : Nat => (x : Int)) ∧ (spA l dss).Comp 0 first ks') := by
  rcases hs.symm.folOut h with ⟨h1, _, _, h4⟩ | ⟨h1, i, bs2, _, _, _, _, _, h7⟩ | ⟨h1, bs2, _, _, _, _, h6⟩ | ⟨h1, bs2, co, cc, h2, h3, _⟩
  · omega
  · omega
  · omega
  · refine ⟨h1, fun hl => ?_⟩
    obtain ⟨ks, k1, k2, k3⟩ := fol_nat h2 (Nat.le_refl _)
    rw [List.take_length] at k1
    refine ⟨ks, k1, ?_⟩
    have h9 := fol_comp hl hd k1 k3 h2 (by omega) [] (by
      rw [← k2, List.take_length]
      refine .done ((done_iff hl k3).2 ?_)
      rw [← k1]; exact h3)
    rw [← k2, List.take_length, List.append_nil] at h9
    exact h9
theorem fol_nodup {l : List Opv} {dss : List (List Nat)} {ord : List Int} {first : List Nat} : ∀ {i : Nat} {bs : List Nat}, FolR l dss ord first i bs → i ≤ ord.length → (ord.take i).Nodup
  | 0, _, _, _ => by simp
  | i + 1, _, h9, hi => by
    obtain ⟨k, bs, ds, p, hf, hg, e9⟩ := FolR.inv h9
    obtain ⟨g1, g2, _⟩ := hg
    rw [List.take_add_one, g1]
    refine List.nodup_append.2 ⟨fol_nodup hf (by omega), by simp, fun a ha b hb e => ?_⟩
    simp at hb
    rw [e, hb] at ha
    exact g2 ha
set_option maxHeartbeats 64000000 in
/-- the law JudgeFinds -/
theorem finds_any (w : World) (fa oa za : Option Addr) (n fc m oc d zc : Nat) (first : List Nat) (l : List Opv) (dss : List (List Nat)) (ord : List Int) (hb : BRow w fa fc first) (hn : first.length = n) (h : OpsD w oa l dss) (hm : l.length = m) (hs : m ≤ 1048576) (hz : ZRow w za ord) (hd : ord.length = d) (hds : d ≤ 1048576) :
    Calls Try.prog 6 #[.slice fa n fc, .slice oa m oc, .slice za d zc] w fun e w' => e = .returned (.bool true) ∧ Below w.heap.size w w' := by
  have HD : Hid (BRow w fa fc first ∧ first.length = n ∧ OpsD w oa l dss ∧ l.length = m ∧ ZRow w za ord ∧ ord.length = d) := ⟨hb, hn, h, hm, hz, hd⟩
  have HM : Hid (m ≤ 1048576 ∧ d ≤ 1048576) := ⟨hs, hds⟩
  have HO1 : Hid _ := ops_any oa m oc l dss w h hm hs
  clear hb hn h hm hs hz hd hds
  go_enter Try.func6, Try.ntmps6
  go_wp2_with fail
  refine Calls.mono HO1.out ?_
  rintro e W1 ⟨oa1, oc1, l1, rfl, hb1, hO1, hl1, hs1⟩
  have H1 : Hid (Below w.heap.size w W1 ∧ OpsD W1 oa1 l1 dss ∧ Sibs l l1) := ⟨hb1, hO1, ⟨by rw [hl1, HD.out.2.2.2.1], hs1⟩⟩
  have HOr : Hid _ := order_any fa oa1 n fc m oc1 first l1 dss W1 (HD.out.1.later hb1) HD.out.2.1 hO1 hl1 (by have := HM.out.1; omega)
  clear hb1 hO1 hl1 hs1 HO1
  go_wp2_with fail
  refine Calls.mono HOr.out ?_
  rintro e W2 ⟨v, ok, en, rfl, hout, hb2⟩
  have hOut : Hid _ := hout
  have HB2 : Hid (Below w.heap.size w W2) := H1.out.1.trans (hb2.mono H1.out.1.size)
  clear hout hb2 HOr
  cases ok with
  | false =>
    have HBv : Hid (Below w.heap.size w W2) := HB2.out
    have HO3 : Hid _ := ops_any oa m oc l dss W2 (HD.out.2.2.1.later HBv.out) HD.out.2.2.2.1 HM.out.1
    go_wp2_with fail
    refine Calls.mono HO3.out ?_
    rintro e Z1 ⟨oa3, oc3, l3, rfl, hz1, hO3, hl3, hs3⟩
    have HZ1 : Hid (Below w.heap.size w Z1 ∧ Sibs l l3) := ⟨HBv.out.trans (hz1.mono HBv.out.size), ⟨by rw [hl3, HD.out.2.2.2.1], hs3⟩⟩
    have HF3 : Hid _ := follow_any fa oa3 za n fc m oc3 d zc first l3 dss ord Z1 (HD.out.1.later HZ1.out.1) HD.out.2.1 hO3 hl3 (by have := HM.out.1; omega) (HD.out.2.2.2.2.1.later HZ1.out.1) HD.out.2.2.2.2.2 (by have := HM.out.2; omega)
    have HV1 : Hid (Below W2.heap.size W2 Z1) := hz1
    clear hz1 hO3 hl3 hs3 HO3
    go_wp2_with fail
    refine Calls.mono HF3.out ?_
    rintro e Z2 ⟨v3, at3, en3, rfl, hf3, hn3, hb3⟩
    have HZ2 : Hid (Below w.heap.size w Z2 ∧ FolOut l3 dss ord first n Z2 v3 at3 en3 ∧ Below W2.heap.size W2 Z2) := ⟨HZ1.out.1.trans (hb3.mono HZ1.out.1.size), hf3, HV1.out.trans (hb3.mono HV1.out.size)⟩
    clear hf3 hn3 hb3 HF3
    by_cases hg : en3 = 0
    · have n5 : (en3 == 0) = true := by simp [hg]
      have n6 : (en3 != 0) = false := by simp [hg]
      obtain ⟨hw0, halive⟩ := fol_alive HZ2.out.2.1 hg (H1.out.2.2.symm.trans HZ1.out.2) (by rw [HD.out.2.2.1.len, H1.out.2.2.len])
      have HAl : Hid _ := halive
      subst hg
      have hen : 10 < m ∧ en = 170 := by
        rcases hOut.out with ⟨h1, _, _, h4⟩ | ⟨_, h2, _⟩ | ⟨_, _, _, h4, _⟩ | ⟨h1, h2, h3, h4, h5, h6⟩
        · exact ⟨by rw [H1.out.2.2.len, HD.out.2.2.2.1] at h1; exact h1, h4⟩
        · exact absurd hw0 h2
        · cases h4
        · obtain ⟨ks', _, h8⟩ := HAl.out h1
          exact absurd h8 (h6 ks')
      obtain ⟨hen1, rfl⟩ := hen
      have n10 : decide ((10 : Int) < (m : Int)) = true := decide_eq_true (by omega)
      clear hw0 halive
      go_wp2_with fail
      refine Calls.mono (heads_any Z2) ?_
      rintro e Z3 ⟨rfl, hz3⟩
      have HZ3 : Hid (Below w.heap.size w Z3) := HZ2.out.1.trans (hz3.mono HZ2.out.1.size)
      clear hz3
      go_wp2_with fail
      go_ret
      exact ⟨rfl, HZ3.out⟩

    · have n5 : (en3 == 0) = false := by simp [hg]
      have n6 : (en3 != 0) = true := by simp [hg]
      go_wp2_with fail
      refine Calls.mono (heads_any Z2) ?_
      rintro e Z3 ⟨rfl, hz3⟩
      have HZ3 : Hid (Below w.heap.size w Z3) := HZ2.out.1.trans (hz3.mono HZ2.out.1.size)
      clear hz3
      go_wp2_with fail
      go_ret
      exact ⟨rfl, HZ3.out⟩

  | true =>
    obtain ⟨h10, hwz, rfl, hks⟩ : l1.length ≤ 10 ∧ wrg n l1 = 0 ∧ en = 0 ∧ ∃ ks za zc, v = .slice za ks.length zc ∧ (spA l1 dss).Finds 0 first ks ∧ W2.ownsRow W1.heap.size 3 1 (.slice za ks.length zc) ks.length (ks.map iv) := by
      rcases hOut.out with ⟨_, _, h3, _⟩ | ⟨_, _, _, h3, _⟩ | ⟨h1, h2, h3, _, h5⟩ | ⟨_, _, _, h3, _⟩
      · cases h3
      · cases h3
      · exact ⟨h1, h2, h3, h5⟩
      · cases h3
    obtain ⟨ks, za1, zc1, rfl, hF, hrow⟩ := hks
    have hmap : ks.map iv = (ks.map (fun x : Nat => (x : Int))).map (Value.int .i64) := by rw [List.map_map]; rfl
    rw [hmap] at hrow
    obtain ⟨kk, hkk⟩ : ∃ kk, ks.length = kk := ⟨_, rfl⟩
    rw [hkk] at hrow ⊢
    obtain ⟨za9, zc9, hv1, hzk⟩ := zrow_own hrow (by rw [List.length_map]; exact hkk)
    cases hv1
    obtain ⟨bsF, hfolR, hwhl⟩ := comp_fol h10 (by rw [HD.out.2.2.1.len, H1.out.2.2.len]) (first := first) ks [] first (by simp) (by simpa [mask] using hF.comp) .nil
    rw [List.nil_append] at hfolR hwhl
    have hkl : kk ≤ 10 := by
      rw [← hkk]
      obtain ⟨ks2, e1, e2, e3⟩ := fol_nat hfolR (by simp)
      have hnd := fol_nodup hfolR (by simp)
      rw [e1] at hnd
      have hnd2 : ks2.Nodup := (List.pairwise_map.1 hnd).imp fun h e => h (by rw [e])
      have := nodup_lt hnd2 e3
      try simp at e2
      omega
    have HKs : Hid (l1.length ≤ 10 ∧ wrg n l1 = 0 ∧ (spA l1 dss).Finds 0 first ks ∧ kk ≤ 10 ∧ ks.length = kk) := ⟨h10, hwz, hF, hkl, hkk⟩
    have HFo : Hid (FolR l1 dss (ks.map (fun x : Nat => (x : Int))) first ks.length bsF ∧ Whl l1 (ks.map (fun x : Nat => (x : Int))) l1.length) := ⟨hfolR, hwhl⟩
    have HZ2k : Hid (ZRow W2 za1 (ks.map (fun x : Nat => (x : Int)))) := hzk
    have HO2 : Hid _ := ops_any oa m oc l dss W2 (HD.out.2.2.1.later HB2.out) HD.out.2.2.2.1 HM.out.1
    clear h10 hwz hF hrow hmap hkk hzk hfolR hwhl hkl
    go_wp2_with fail
    refine Calls.mono HO2.out ?_
    rintro e W3 ⟨oa2, oc2, l2, rfl, hb3, hO2, hl2, hs2⟩
    have H3 : Hid (Below w.heap.size w W3 ∧ Sibs l l2 ∧ Below W2.heap.size W2 W3) := ⟨HB2.out.trans (hb3.mono HB2.out.size), ⟨by rw [hl2, HD.out.2.2.2.1], hs2⟩, hb3⟩
    have HF2 : Hid _ := follow_any fa oa2 za1 n fc m oc2 kk zc1 first l2 dss (ks.map (fun x : Nat => (x : Int))) W3 (HD.out.1.later H3.out.1) HD.out.2.1 hO2 hl2 (by have := HM.out.1; omega) (HZ2k.out.later hb3) (by rw [List.length_map]; exact HKs.out.2.2.2.2) (by have := HKs.out.2.2.2.1; omega)
    clear hb3 hO2 hl2 hs2 HO2
    go_wp2_with fail
    refine Calls.mono HF2.out ?_
    rintro e W4 ⟨v2, at2, en2, rfl, hf2, hn2, hb4⟩
    have h0 : en2 = 0 := fol_ok ((H3.out.2.1.symm.trans H1.out.2.2).folOut hf2) HKs.out.2.1 (by have := HFo.out.1; rw [List.length_map]; exact this) HFo.out.2
    subst h0
    have HBv : Hid (Below w.heap.size w W4) := H3.out.1.trans (hb4.mono H3.out.1.size)
    have HZk : Hid (ZRow W4 za1 (ks.map (fun x : Nat => (x : Int)))) := HZ2k.out.later (H3.out.2.2.trans (hb4.mono H3.out.2.2.size))
    clear hf2 hn2 hb4 HF2
    have HO3 : Hid _ := ops_any oa m oc l dss W4 (HD.out.2.2.1.later HBv.out) HD.out.2.2.2.1 HM.out.1
    go_wp2_with fail
    refine Calls.mono HO3.out ?_
    rintro e Z1 ⟨oa3, oc3, l3, rfl, hz1, hO3, hl3, hs3⟩
    have HZ1 : Hid (Below w.heap.size w Z1 ∧ Sibs l l3) := ⟨HBv.out.trans (hz1.mono HBv.out.size), ⟨by rw [hl3, HD.out.2.2.2.1], hs3⟩⟩
    have HF3 : Hid _ := follow_any fa oa3 za n fc m oc3 d zc first l3 dss ord Z1 (HD.out.1.later HZ1.out.1) HD.out.2.1 hO3 hl3 (by have := HM.out.1; omega) (HD.out.2.2.2.2.1.later HZ1.out.1) HD.out.2.2.2.2.2 (by have := HM.out.2; omega)
    have HV1 : Hid (Below W4.heap.size W4 Z1) := hz1
    clear hz1 hO3 hl3 hs3 HO3
    go_wp2_with fail
    refine Calls.mono HF3.out ?_
    rintro e Z2 ⟨v3, at3, en3, rfl, hf3, hn3, hb3⟩
    have HZ2 : Hid (Below w.heap.size w Z2 ∧ FolOut l3 dss ord first n Z2 v3 at3 en3 ∧ Below W4.heap.size W4 Z2) := ⟨HZ1.out.1.trans (hb3.mono HZ1.out.1.size), hf3, HV1.out.trans (hb3.mono HV1.out.size)⟩
    clear hf3 hn3 hb3 HF3
    by_cases hg : en3 = 0
    · have n5 : (en3 == 0) = true := by simp [hg]
      have n6 : (en3 != 0) = false := by simp [hg]
      obtain ⟨hw0, halive⟩ := fol_alive HZ2.out.2.1 hg (H1.out.2.2.symm.trans HZ1.out.2) (by rw [HD.out.2.2.1.len, H1.out.2.2.len])
      have HAl : Hid _ := halive
      subst hg
      have HCt : Hid (∃ ks' : List Nat, ord = ks'.map (fun x : Nat => (x : Int)) ∧ NotBehind ks ks') := by
        obtain ⟨ks', h1, h2⟩ := HAl.out HKs.out.1
        exact ⟨ks', h1, HKs.out.2.2.1.least h2⟩
      have n10 : decide ((10 : Int) < (m : Int)) = false := decide_eq_false (by have := HKs.out.1; have := H1.out.2.2.len; have := HD.out.2.2.2.1; omega)
      have HNb : Hid (Calls Try.prog 21 #[.slice za1 kk zc1, .slice za d zc] Z2 fun e w' => e = .returned (.bool true) ∧ ∃ q, w' = Z2.drewN q) := by
        obtain ⟨ks', h1, h2⟩ := HCt.out
        have h3 := HD.out.2.2.2.2.1.later HZ2.out.1
        have h4 : ks'.length = d := by have := HD.out.2.2.2.2.2; rw [h1, List.length_map] at this; exact this
        rw [h1] at h3
        exact notBehind_any za1 za zc1 zc kk d ks ks' Z2 HKs.out.2.2.2.2 h4 (by have := HKs.out.2.2.2.1; omega) (by have := HM.out.2; omega) ((HZk.out.later HZ2.out.2.2)) h3 h2
      clear hw0 halive
      go_wp2_with fail
      refine Calls.mono HNb.out ?_
      rintro e Z3 ⟨rfl, q3, hq3⟩
      have HZ3 : Hid (Below w.heap.size w Z3) := by
        subst hq3
        exact HZ2.out.1.trans ⟨rfl, rfl, rfl, Nat.le_refl _, fun _ _ => rfl⟩
      clear hq3
      go_wp2_with fail
      refine Calls.mono (heads_any Z3) ?_
      rintro e Z4 ⟨rfl, hz4⟩
      have HZ4 : Hid (Below w.heap.size w Z4) := HZ3.out.trans (hz4.mono HZ3.out.size)
      clear hz4
      go_wp2_with fail
      go_ret
      exact ⟨rfl, HZ4.out⟩

    · have n5 : (en3 == 0) = false := by simp [hg]
      have n6 : (en3 != 0) = true := by simp [hg]
      go_wp2_with fail
      refine Calls.mono (heads_any Z2) ?_
      rintro e Z3 ⟨rfl, hz3⟩
      have HZ3 : Hid (Below w.heap.size w Z3) := HZ2.out.1.trans (hz3.mono HZ2.out.1.size)
      clear hz3
      go_wp2_with fail
      go_ret
      exact ⟨rfl, HZ3.out⟩

end Go.Proofs.Ytjkoambfecmglaa

namespace Go.Proofs.Ytjkoambfecmglaa.judgeFinds
open Go.ChangeShapes Go.WideShapes Go.ChangeAt Go.RowKit Go.Lib
open Go.Deep
set_option linter.unusedVariables false
set_option linter.unusedSimpArgs false
set_option maxRecDepth 100000
theorem contract (H : Type) (enc : TypeId × Value → H) (W : World) (base : Nat) (args : Array Value) (ds gs : List (DataW H)) (before : List MemPlace)
    (hval : ∀ (j : Nat) t v, Try.f6.params[j]? = some t → args[j]? = some v → Value.okWide Try.prog W .any base t v)
    (hW : DataW.Whole enc Try.prog Try.f6.params.toList Rows.judgeFindsSpec.vars false W args.toList ds gs before) (hk : Rows.uptoSmall H (ds ++ gs) = true) :
    Calls Try.prog 6 args W fun e W' => ∃ v, e = .returned v ∧ Rows.judgeFindsSpec.post enc Try.prog Try.f6 false true false false W args v W' := by
  have hW' := hW
  obtain ⟨p, q, hA0, hV, rfl, hfz, hnd⟩ := hW
  have hA : DataW.TrodAll enc Try.prog W 0 (fun _ => true) true Try.f6.params.toList args.toList ds p := hA0
  rw [Try.params6] at hA hval
  obtain ⟨v0, vs0, d0, ds0, p0, q0, hargs, rfl, rfl, h0, r0⟩ := trodAll_cons hA
  obtain ⟨v1, vs1, d1, ds1, p1, q1, rfl, rfl, rfl, h1, r1⟩ := trodAll_cons r0
  obtain ⟨v2, vs2, d2, ds2, p2, q2, rfl, rfl, rfl, h2, r2⟩ := trodAll_cons r1
  obtain ⟨rfl, rfl, rfl⟩ := trodAll_nil r2
  obtain rfl : args = #[v0, v1, v2] := by cases args; simp_all
  obtain ⟨rfl, rfl⟩ := trodVars_none hV
  have k0 := h0
  have k1 := h1
  have k2 := h2
  have lt0 : ∀ x ∈ p0, x.block < W.heap.size := by obtain ⟨m, hm⟩ := k0; exact DataW.trod_lt m _ _ _ hm
  have lt1 : ∀ x ∈ p1, x.block < W.heap.size := by obtain ⟨m, hm⟩ := k1; exact DataW.trod_lt m _ _ _ hm
  have lt2 : ∀ x ∈ p2, x.block < W.heap.size := by obtain ⟨m, hm⟩ := k2; exact DataW.trod_lt m _ _ _ hm
  obtain ⟨ao, len0, cap0, rfl⟩ := okWide_slice (show Try.prog.underlying 22 = some (.slice 5) by kernel_rfl) (hval 0 22 v0 rfl rfl)
  obtain ⟨so, len1, cap1, rfl⟩ := okWide_slice Try.under23 (hval 1 23 v1 rfl rfl)
  obtain ⟨po, len2, cap2, rfl⟩ := okWide_slice (show Try.prog.underlying 24 = some (.slice 3) by kernel_rfl) (hval 2 24 v2 rfl rfl)
  have hbd := bulk_bound hk
  simp only [Rows.uptoBulkAll, List.append_nil] at hbd
  have hwalk : Calls Try.prog 6 #[.slice ao len0 cap0, .slice so len1 cap1, .slice po len2 cap2] W fun e w' => e = .returned (.bool true) ∧ Below W.heap.size W w' := by
    obtain ⟨f0, hf0⟩ := h0
    obtain ⟨f1, hf1⟩ := h1
    obtain ⟨f2, hf2⟩ := h2
    obtain ⟨ao', cap', first, e0, hbr⟩ := open_b17 hf0 (by omega)
    obtain ⟨so', c1, l, dss, e1, hO, hml⟩ := open_ops17 hf1 (by omega)
    obtain ⟨po', c2, ord, e2, hz, hzc, hdl, hzn⟩ := open_z17 hf2 (by omega)
    simp [Value.cells] at e0 e1 e2
    obtain ⟨rfl, rfl, rfl⟩ := e0
    obtain ⟨rfl, rfl, rfl⟩ := e1
    obtain ⟨rfl, rfl, rfl⟩ := e2
    exact finds_any W ao so po _ cap0 _ cap1 _ cap2 first l dss ord hbr rfl hO rfl hml hz rfl hdl
  clear hA0
  refine hwalk.mono fun e W' ⟨he, bel⟩ => ?_
  subst he
  exact ⟨_, rfl, _, _, _, [], _, [], hW', trodAll_mk1 (shut_bool (show Try.prog.underlying 4 = some .bool by kernel_rfl) _), trodAll_cons_mk (Below.trod laidOut (by kernel_rfl) (of_decide_eq_true (by kernel_rfl)) k0 bel lt0) (trodAll_cons_mk (Below.trod laidOut (by kernel_rfl) (of_decide_eq_true (by kernel_rfl)) k1 bel lt1) (trodAll_cons_mk (Below.trod laidOut (by kernel_rfl) (of_decide_eq_true (by kernel_rfl)) k2 bel lt2) trodAll_mk0)), rfl, bel.frame _, fun h => by cases h⟩

set_option maxRecDepth 100000 in
theorem lifted (os : Os) (started : os.Started) (H : Type) (enc : TypeId × Value → H) (F : Stop.Interp) :
    ReturnsInHanded {} Try.checked os 6 .any ((Rows.OpenSpec.upto Rows.judgeFindsSpec).pre6 enc Try.prog Try.f6 Rows.judgeFindsUptoRow.domain false) (((Rows.OpenSpec.upto Rows.judgeFindsSpec).at F).post enc Try.prog Try.f6 false true false false) := by
  refine returnsInHanded_of_cond (C := Try.checked) (s := Rows.OpenSpec.upto Rows.judgeFindsSpec) (k := Rows.uptoSmall) rfl own started (by kernel_rfl) Try.func6
    (OpenSpec.witness (enc := enc) (C := Try.checked) (s := Rows.OpenSpec.upto Rows.judgeFindsSpec) (k := Rows.uptoSmall) rfl false ⟨#[], #[.slice none 0 0, .slice none 0 0, .slice none 0 0], []⟩ 8 (by kernel_rfl) (by kernel_rfl) (by kernel_rfl)
      (x := ([.nil, .nil, .nil], [], [])) (by kernel_rfl) rfl (by kernel_rfl)) ?_
  intro W base args ds gs before hval hW _ hk _
  exact contract H enc W base args ds gs before hval hW hk
end Go.Proofs.Ytjkoambfecmglaa.judgeFinds
namespace Go.Proofs.Ytjkoambfecmglaa
theorem judgeFinds_proved : Rows.JudgeFindsUptoSaid :=
  OpenClaim.holds_of_cond 6 Try.f6 rfl rfl rfl rfl rfl rfl rfl ⟨rfl, rfl, rfl, rfl, rfl⟩ rfl rfl rfl rfl rfl (by kernel_rfl) Try.func6 (by kernel_rfl)
    (of_decide_eq_true (by kernel_rfl)) (by unfold Func.isWrapper; first | (rw [if_pos (by decide +kernel)]; kernel_rfl) | (rw [if_neg (by decide +kernel)]; exact ⟨rfl, rfl⟩))
    (fun os started H enc _ F => judgeFinds.lifted os started H enc F)
#print axioms judgeFinds_proved
end Go.Proofs.Ytjkoambfecmglaa
