import Derived.Test.YtjkoambfecmglaaJP
import Derived.Test.YtjkoambfecmglaaVSvz
namespace Go.Proofs.Ytjkoambfecmglaa
open Go.RowKit
set_option linter.unusedVariables false
set_option linter.unusedSimpArgs false
set_option maxRecDepth 100000
/-- a list that is the same as another, or ahead of it -/
def NotBehind : List Nat → List Nat → Prop
  | [], _ => True
  | _ :: _, [] => False
  | a :: s, b :: t => a < b ∨ (a = b ∧ NotBehind s t)
theorem SP.Finds.least {s : SP} : ∀ {t : List Nat} {D : Nat} {bs : List Nat}, s.Finds D bs t → ∀ {t' : List Nat}, s.Comp D bs t' → NotBehind t t'
  | [], _, _, _, t', _ => trivial
  | k :: t, _, _, h, t', h' => by
    obtain ⟨h1, h2, h3, h4, h5⟩ := SP.Finds.inv h
    cases t' with
    | nil => have g := SP.Comp.end_ h'; rw [g] at h1; cases h1
    | cons k' t' =>
      obtain ⟨g1, g2, g3⟩ := SP.Comp.inv h'
      rcases Nat.lt_trichotomy k k' with e | e | e
      · exact .inl e
      · subst e; exact .inr ⟨rfl, SP.Finds.least h5 g3⟩
      · exact absurd g3 (h4 k' e g2 _)
/-- the search of an ask -/
abbrev spA (l : List Opv) (dss : List (List Nat)) : SP := spOf l dss (mask (owOf l l.length)) (ahOf l l.length)
theorem sub_mask {ks js : List Nat} {m : Nat} (hm : m ≤ 16) (h1 : ∀ x ∈ ks, x < m) (h2 : ∀ x ∈ js, x < m) : Sub (mask ks) (mask js) = true ↔ ∀ x ∈ ks, x ∈ js := by
  rw [Sub_iff (mask16 hm h2) (mask16 hm h1)]
  constructor
  · intro h x hx
    have := h x (by rw [mask_bit]; exact decide_eq_true hx)
    rw [mask_bit] at this
    exact of_decide_eq_true this
  · intro h i hi
    rw [mask_bit] at hi ⊢
    exact decide_eq_true (h i (of_decide_eq_true hi))
theorem one_mask (k : Nat) : 2 ^ k = mask [k] := by simp [mask]
/-- what may come next in the search is what may come next by the document -/
theorem ok_iff {l : List Opv} {dss : List (List Nat)} (hl : l.length ≤ 10) (hd : dss.length = l.length) {ks : List Nat} (hks : ∀ x ∈ ks, x < l.length) {bs : List Nat} {k : Nat} (hk : k < l.length) :
    (spA l dss).ok (mask ks) bs k = true ↔ ¬ k ∈ ks ∧ Nxt l (ks.map (fun x : Nat => (x : Int))) l[k] l.length ∧ l[k].fit bs (dss[k]'(by omega)) = true := by
  unfold SP.ok
  have h1 : Sub (2 ^ k) (mask ks) = true ↔ k ∈ ks := by
    rw [one_mask, sub_mask (m := l.length) (by omega) (by simpa using hk) hks]; simp
  have e2 : (spA l dss).ah k = mask (befOf l l[k] l.length) := by
    show (ahOf l l.length).getD k 0 = _
    unfold ahOf
    rw [List.getD_eq_getElem?_getD, List.getElem?_map, List.getElem?_range hk]
    simp [hk]
  have h2 : Sub ((spA l dss).ah k) (mask ks) = true ↔ Nxt l (ks.map (fun x : Nat => (x : Int))) l[k] l.length := by
    rw [e2, sub_mask (m := l.length) (by omega) (fun x hx => (befOf_mem.1 hx).1) hks]
    constructor
    · intro h j o hj ho hb
      exact List.mem_map.2 ⟨j, h j (befOf_mem.2 ⟨hj, o, ho, hb⟩), rfl⟩
    · intro h x hx
      obtain ⟨a, o, ho, hb⟩ := befOf_mem.1 hx
      obtain ⟨y, hy, e⟩ := List.mem_map.1 (h x o a ho hb)
      have e' : y = x := Int.ofNat.inj e
      rw [← e']; exact hy
  have e3 : (spA l dss).fit k bs = l[k].fit bs (dss[k]'(by omega)) := by
    show (match l[k]?, dss[k]? with | some p, some ds => p.fit bs ds | _, _ => false) = _
    rw [List.getElem?_eq_getElem hk, List.getElem?_eq_getElem (show k < dss.length by omega)]
  rw [e3, Bool.and_eq_true, Bool.and_eq_true, h2]
  constructor
  · rintro ⟨⟨a, b⟩, c⟩
    refine ⟨fun hin => ?_, b, c⟩
    rw [h1.2 hin] at a; cases a
  · rintro ⟨a, b, c⟩
    refine ⟨⟨?_, b⟩, c⟩
    cases hs : Sub (2 ^ k) (mask ks) with
    | false => rfl
    | true => exact absurd (h1.1 hs) a
theorem eff_at {l : List Opv} {dss : List (List Nat)} (hd : dss.length = l.length) {bs : List Nat} {k : Nat} (hk : k < l.length) : (spA l dss).eff k bs = l[k].eff bs (dss[k]'(by omega)) := by
  show (match l[k]?, dss[k]? with | some p, some ds => p.eff bs ds | _, _ => bs) = _
  rw [List.getElem?_eq_getElem hk, List.getElem?_eq_getElem (show k < dss.length by omega)]
theorem done_iff {l : List Opv} {dss : List (List Nat)} (hl : l.length ≤ 10) {ks : List Nat} (hks : ∀ x ∈ ks, x < l.length) : Sub (spA l dss).A (mask ks) = true ↔ Whl l (ks.map (fun x : Nat => (x : Int))) l.length := by
  show Sub (mask (owOf l l.length)) (mask ks) = true ↔ _
  rw [sub_mask (m := l.length) (by omega) (fun x hx => (owOf_mem.1 hx).1) hks]
  constructor
  · intro h j o hj ho ha
    exact List.mem_map.2 ⟨j, h j (owOf_mem.2 ⟨hj, o, ho, ha⟩), rfl⟩
  · intro h x hx
    obtain ⟨a, o, ho, hb⟩ := owOf_mem.1 hx
    obtain ⟨y, hy, e⟩ := List.mem_map.1 (h x o a ho hb)
    have e' : y = x := Int.ofNat.inj e
    rw [← e']; exact hy
/-- an order of the search is one that the document follows -/
theorem comp_fol {l : List Opv} {dss : List (List Nat)} (hl : l.length ≤ 10) (hd : dss.length = l.length) {first : List Nat} : ∀ (t pre : List Nat) (bs : List Nat), (∀ x ∈ pre, x < l.length) → (spA l dss).Comp (mask pre) bs t → FolR l dss ((pre ++ t).map (fun x : Nat => (x : Int))) first pre.length bs → ∃ bs', FolR l dss ((pre ++ t).map (fun x : Nat => (x : Int))) first (pre ++ t).length bs' ∧ Whl l ((pre ++ t).map (fun x : Nat => (x : Int))) l.length
  | [], pre, bs, hp, hc, hf => by
    have h := SP.Comp.end_ hc
    rw [List.append_nil] at hf ⊢
    exact ⟨bs, hf, (done_iff hl hp).1 h⟩
  | k :: t, pre, bs, hp, hc, hf => by
    · obtain ⟨h1, h2, h3⟩ := SP.Comp.inv hc
      have hk : k < l.length := h1
      obtain ⟨a, b, c⟩ := (ok_iff hl hd hp hk).1 h2
      rw [eff_at hd hk] at h3
      have e1 : mask pre ||| 2 ^ k = mask (pre ++ [k]) := (mask_snoc pre k).symm
      rw [e1] at h3
      have e2 : pre ++ k :: t = (pre ++ [k]) ++ t := by simp
      have htk : ((pre ++ k :: t).map (fun x : Nat => (x : Int))).take pre.length = pre.map (fun x : Nat => (x : Int)) := by
        rw [List.map_append, List.take_append_of_le_length (by simp), List.take_of_length_le (by simp)]
      have hg : Goes l dss ((pre ++ k :: t).map (fun x : Nat => (x : Int))) bs pre.length k l[k] (dss[k]'(by omega)) := by
        refine ⟨by simp, ?_, List.getElem?_eq_getElem hk, List.getElem?_eq_getElem (by omega), ?_, c⟩
        · rw [htk]
          intro hin
          obtain ⟨y, hy, e⟩ := List.mem_map.1 hin
          have e' : y = k := Int.ofNat.inj e
          exact a (by rw [← e']; exact hy)
        · rw [htk]; exact b
      have hf2 := FolR.step hf hg
      have ih := comp_fol hl hd (first := first) t (pre ++ [k]) _ (by
        intro x hx
        rcases List.mem_append.1 hx with h | h
        · exact hp x h
        · rw [List.mem_singleton.1 h]; exact hk) h3
      rw [← e2] at ih
      rw [show (pre ++ [k]).length = pre.length + 1 by simp] at ih
      exact ih hf2
/-- an order that the document follows is one of the search -/
theorem fol_nat {l : List Opv} {dss : List (List Nat)} {ord : List Int} {first : List Nat} : ∀ {i : Nat} {bs : List Nat}, FolR l dss ord first i bs → i ≤ ord.length → ∃ ks : List Nat, ord.take i = ks.map (fun x : Nat => (x : Int)) ∧ ks.length = i ∧ ∀ x ∈ ks, x < l.length
  | 0, _, _, _ => ⟨[], by simp, rfl, by simp⟩
  | i + 1, _, h9, hi => by
    obtain ⟨k, bs, ds, p, hf, hg, e9⟩ := FolR.inv h9
    obtain ⟨ks, h1, h2, h3⟩ := fol_nat hf (by omega)
    obtain ⟨g1, _, g3, _⟩ := hg
    have hk := (List.getElem?_eq_some_iff.1 g3).1
    refine ⟨ks ++ [k], ?_, by simp [h2], fun x hx => ?_⟩
    · rw [List.take_add_one, g1, h1]; simp
    · rcases List.mem_append.1 hx with h | h
      · exact h3 x h
      · rw [List.mem_singleton.1 h]; exact hk
theorem fol_comp {l : List Opv} {dss : List (List Nat)} (hl : l.length ≤ 10) (hd : dss.length = l.length) {first : List Nat} {ord : List Int} {ks : List Nat} (ho : ord = ks.map (fun x : Nat => (x : Int))) (hks : ∀ x ∈ ks, x < l.length) : ∀ {i : Nat} {bs : List Nat}, FolR l dss ord first i bs → i ≤ ks.length → ∀ t, (spA l dss).Comp (mask (ks.take i)) bs t → (spA l dss).Comp 0 first (ks.take i ++ t)
  | 0, _, h9, _, t, hc => by
    have e9 := FolR.zero h9
    subst e9
    simpa [mask] using hc
  | i + 1, _, h9, hi, t, hc => by
    obtain ⟨k, bs, ds, p, hf, hg, e9⟩ := FolR.inv h9
    subst e9
    obtain ⟨g1, g2, g3, g4, g5, g6⟩ := hg
    have hki : ks[i]? = some k := by
      rw [ho, List.getElem?_map] at g1
      cases hx : ks[i]? with
      | none => rw [hx] at g1; cases g1
      | some x => rw [hx] at g1; have := Option.some.inj g1; rw [Int.ofNat.inj this]
    have hk := (List.getElem?_eq_some_iff.1 g3).1
    have hkp : l[k] = p := (List.getElem?_eq_some_iff.1 g3).2
    have hkd : dss[k]'(by omega) = ds := (List.getElem?_eq_some_iff.1 g4).2
    have e1 : ks.take (i + 1) = ks.take i ++ [k] := by rw [List.take_add_one, hki]; rfl
    have hpre : ∀ x ∈ ks.take i, x < l.length := fun x hx => hks x (List.mem_of_mem_take hx)
    have etk : ord.take i = (ks.take i).map (fun x : Nat => (x : Int)) := by rw [ho, List.map_take]
    rw [etk] at g2 g5
    rw [e1, mask_snoc] at hc
    have hc2 : (spA l dss).Comp (mask (ks.take i)) bs (k :: t) := by
      refine .step hk ((ok_iff hl hd hpre hk).2 ⟨fun hin => g2 (List.mem_map.2 ⟨k, hin, rfl⟩), by rw [hkp]; exact g5, by rw [hkp, hkd]; exact g6⟩) ?_
      rw [eff_at hd hk, hkp, hkd]; exact hc
    have := fol_comp hl hd ho hks hf (by omega) (k :: t) hc2
    rw [e1, List.append_assoc]
    exact this
end Go.Proofs.Ytjkoambfecmglaa

namespace Go.Proofs.Ytjkoambfecmglaa
open Go.RowKit
set_option linter.unusedVariables false
set_option linter.unusedSimpArgs false
set_option maxRecDepth 100000
theorem NotBehind.at_ : ∀ {s t : List Nat} (i : Nat), NotBehind s t → s.take i = t.take i → i < s.length → ∃ a b, s[i]? = some a ∧ t[i]? = some b ∧ a ≤ b
  | [], t, i, _, _, h => by simp at h
  | a :: s, [], i, h, _, _ => h.elim
  | a :: s, b :: t, 0, h, _, _ => by
    rcases h with h | ⟨h, _⟩
    · exact ⟨a, b, rfl, rfl, by omega⟩
    · exact ⟨a, b, rfl, rfl, by omega⟩
  | a :: s, b :: t, i + 1, h, e, hl => by
    simp at e
    rcases h with h | ⟨_, h⟩
    · omega
    · obtain ⟨x, y, h1, h2, h3⟩ := NotBehind.at_ i h e.2 (by simpa using hl)
      exact ⟨x, y, by simpa using h1, by simpa using h2, h3⟩
set_option maxHeartbeats 1000000 in
theorem notBehind_any (ao bo : Option Addr) (c c' n m : Nat) (s t : List Nat) (w : World) (hl : s.length = n) (hm : t.length = m) (hn : n ≤ 17592186044416) (hm2 : m ≤ 17592186044416) (h : ZRow w ao (s.map (fun x : Nat => (x : Int)))) (h' : ZRow w bo (t.map (fun x : Nat => (x : Int)))) (hb : NotBehind s t) :
    Calls Try.prog 21 #[.slice ao n c, .slice bo m c'] w fun e w' => e = .returned (.bool true) ∧ ∃ q, w' = w.drewN q := by
  have HL : Hid (s.length = n ∧ t.length = m ∧ NotBehind s t) := ⟨hl, hm, hb⟩
  have HZ : Hid (ZRow w ao (s.map (fun x : Nat => (x : Int))) ∧ ZRow w bo (t.map (fun x : Nat => (x : Int)))) := ⟨h, h'⟩
  clear h h' hl hm hb
  go_enter Try.func21, Try.ntmps21
  go_wp2
  go_loopw [5] (fun i wr => ∃ k q : Nat, k ≤ n ∧ i = .int .i64 k ∧ wr = w.drewN q ∧ Hid (s.take k = t.take k)) (fun i _ => n - (intOf i).toNat)
  case atStart => exact ⟨0, 0, Nat.zero_le _, rfl, rfl, by show _ = _; simp⟩
  case round =>
    obtain ⟨k, q, hk, rfl, rfl, HT⟩ := hrel
    by_cases hlt : k < n
    · obtain ⟨x, y, hx, hy, hxy⟩ := HL.out.2.2.at_ k HT.out (by rw [HL.out.1]; exact hlt)
      have hkt : k < m := by rw [← HL.out.2.1]; exact (List.getElem?_eq_some_iff.1 hy).1
      have n9 : decide ((k : Int) < (n : Int)) = true := decide_eq_true (by omega)
      have n8 : decide ((k : Int) < (m : Int)) = true := decide_eq_true (by omega)
      have n7 : decide ((m : Int) ≤ (k : Int)) = false := decide_eq_false (by omega)
      have n6 : decide ((y : Int) < (x : Int)) = false := decide_eq_false (by omega)
      obtain ⟨b, off, e1, hc⟩ := HZ.out.1.at_ (by intro e; rw [List.map_eq_nil_iff.1 e] at hx; simp at hx)
      obtain ⟨b', off', e2, hd⟩ := HZ.out.2.at_ (by intro e; rw [List.map_eq_nil_iff.1 e] at hy; simp at hy)
      subst e1 e2
      have h1 := hc k (by rw [List.length_map, HL.out.1]; exact hlt)
      have h2 := hd k (by rw [List.length_map, HL.out.2.1]; exact hkt)
      have ex : s[k]'(by rw [HL.out.1]; exact hlt) = x := (List.getElem?_eq_some_iff.1 hx).2
      have ey : t[k]'(by rw [HL.out.2.1]; exact hkt) = y := (List.getElem?_eq_some_iff.1 hy).2
      rw [List.getElem_map, ex] at h1
      rw [List.getElem_map, ey] at h2
      have HS : Hid (x = y → s.take (k + 1) = t.take (k + 1)) := fun e => by rw [List.take_add_one, List.take_add_one, hx, hy, HT.out, e]
      clear hc hd ex ey hx hy
      by_cases hz : x < y
      · have n5 : decide ((x : Int) < (y : Int)) = true := decide_eq_true (by omega)
        go_wp2
        go_quiet (fail)
        go_wp2
        go_quiet (fail)
        go_wp2
        go_ret
        exact ⟨rfl, _, by rw [World.drewN_drewN, World.drewN_drewN]⟩
      · have n5 : decide ((x : Int) < (y : Int)) = false := decide_eq_false (by omega)
        have HS2 : Hid (s.take (k + 1) = t.take (k + 1)) := HS.out (by omega)
        go_wp2
        go_quiet (fail)
        go_wp2
        go_quiet (fail)
        go_wp2
        go_roundw
        case rel => exact ⟨k + 1, _, by omega, by go_num, rfl, HS2⟩
        case measure => simp [intOf]; omega
    · go_wp2
      go_ret
      exact ⟨rfl, _, rfl⟩
end Go.Proofs.Ytjkoambfecmglaa

namespace Go.Proofs.Ytjkoambfecmglaa
open Go.RowKit
set_option linter.unusedVariables false
set_option linter.unusedSimpArgs false
set_option maxRecDepth 100000
theorem Sib.trans {p q r : Opv} (h : Sib p q) (h2 : Sib q r) : Sib p r := by
  unfold Sib at *
  rw [h2]
  congr 1 <;> rw [h]
theorem Sibs.trans {a b c : List Opv} (h : Sibs a b) (h2 : Sibs b c) : Sibs a c :=
  ⟨h2.len.trans h.len, fun k p q hp hq => by
    obtain ⟨x, hx, hs⟩ := h.get hp
    exact hs.trans (h2.sib k x q hx hq)⟩
theorem fol_ok {l : List Opv} {dss : List (List Nat)} {ord : List Int} {first bs : List Nat} {n : Nat} {W : World} {v : Value} {at_ en : Int} (h : FolOut l dss ord first n W v at_ en) (hw : wrg n l = 0) (hf : FolR l dss ord first ord.length bs) (hy : Whl l ord l.length) : en = 0 := by
  rcases h with ⟨h1, _⟩ | ⟨h1, i, bs2, h2, h3, h4, _⟩ | ⟨h1, bs2, h2, h3, h4⟩ | ⟨h1, bs2, co, cc, h2, h3, h4, h5, h6, h7, h8⟩
  · exact absurd hw h1
  · obtain ⟨bs0, k, p, ds, q1, q2⟩ := hf.goes h3
    cases FolR.det h2 q1
    exact absurd q2 (h4 k p ds)
  · exact absurd hy h3
  · exact h8
theorem fol_alive {l l3 : List Opv} {dss : List (List Nat)} {ord : List Int} {first : List Nat} {n : Nat} {W : World} {v : Value} {at_ en : Int} (h : FolOut l3 dss ord first n W v at_ en) (he : en = 0) (hs : Sibs l l3) (hd : dss.length = l.length) : wrg n l = 0 ∧ (l.length ≤ 10 → ∃ ks' : List Nat, ord = ks'.map (fun x : Nat => (x : Int)) ∧ (spA l dss).Comp 0 first ks') := by
  rcases hs.symm.folOut h with ⟨h1, _, _, h4⟩ | ⟨h1, i, bs2, _, _, _, _, _, h7⟩ | ⟨h1, bs2, _, _, _, _, h6⟩ | ⟨h1, bs2, co, cc, h2, h3, _⟩
  · omega
  · omega
  · omega
  · refine ⟨h1, fun hl => ?_⟩
    obtain ⟨ks, k1, k2, k3⟩ := fol_nat h2 (Nat.le_refl _)
    rw [List.take_length] at k1
    refine ⟨ks, k1, ?_⟩
    have h9 := fol_comp hl hd k1 k3 h2 (by omega) [] (by
      rw [← k2, List.take_length]
      refine .done ((done_iff hl k3).2 ?_)
      rw [← k1]; exact h3)
    rw [← k2, List.take_length, List.append_nil] at h9
    exact h9
theorem fol_nodup {l : List Opv} {dss : List (List Nat)} {ord : List Int} {first : List Nat} : ∀ {i : Nat} {bs : List Nat}, FolR l dss ord first i bs → i ≤ ord.length → (ord.take i).Nodup
  | 0, _, _, _ => by simp
  | i + 1, _, h9, hi => by
    obtain ⟨k, bs, ds, p, hf, hg, e9⟩ := FolR.inv h9
    obtain ⟨g1, g2, _⟩ := hg
    rw [List.take_add_one, g1]
    refine List.nodup_append.2 ⟨fol_nodup hf (by omega), by simp, fun a ha b hb e => ?_⟩
    simp at hb
    rw [e, hb] at ha
    exact g2 ha
set_option maxHeartbeats 64000000 in
/-- the law JudgeFinds -/
theorem finds_any (w : World) (fa oa za : Option Addr) (n fc m oc d zc : Nat) (first : List Nat) (l : List Opv) (dss : List (List Nat)) (ord : List Int) (hb : BRow w fa fc first) (hn : first.length = n) (h : OpsD w oa l dss) (hm : l.length = m) (hs : m ≤ 1048576) (hz : ZRow w za ord) (hd : ord.length = d) (hds : d ≤ 1048576) :
    Calls Try.prog 6 #[.slice fa n fc, .slice oa m oc, .slice za d zc] w fun e w' => e = .returned (.bool true) ∧ Below w.heap.size w w' := by
  have HD : Hid (BRow w fa fc first ∧ first.length = n ∧ OpsD w oa l dss ∧ l.length = m ∧ ZRow w za ord ∧ ord.length = d) := ⟨hb, hn, h, hm, hz, hd⟩
  have HM : Hid (m ≤ 1048576 ∧ d ≤ 1048576) := ⟨hs, hds⟩
  have HO1 : Hid _ := ops_any oa m oc l dss w h hm hs
  clear hb hn h hm hs hz hd hds
  go_enter Try.func6, Try.ntmps6
  go_wp2_with fail
  refine Calls.mono HO1.out ?_
  rintro e W1 ⟨oa1, oc1, l1, rfl, hb1, hO1, hl1, hs1⟩
  have H1 : Hid (Below w.heap.size w W1 ∧ OpsD W1 oa1 l1 dss ∧ Sibs l l1) := ⟨hb1, hO1, ⟨by rw [hl1, HD.out.2.2.2.1], hs1⟩⟩
  have HOr : Hid _ := order_any fa oa1 n fc m oc1 first l1 dss W1 (HD.out.1.later hb1) HD.out.2.1 hO1 hl1 (by have := HM.out.1; omega)
  clear hb1 hO1 hl1 hs1 HO1
  go_wp2_with fail
  refine Calls.mono HOr.out ?_
  rintro e W2 ⟨v, ok, en, rfl, hout, hb2⟩
  have hOut : Hid _ := hout
  have HB2 : Hid (Below w.heap.size w W2) := H1.out.1.trans (hb2.mono H1.out.1.size)
  clear hout hb2 HOr
  cases ok with
  | false =>
    have HBv : Hid (Below w.heap.size w W2) := HB2.out
    have HO3 : Hid _ := ops_any oa m oc l dss W2 (HD.out.2.2.1.later HBv.out) HD.out.2.2.2.1 HM.out.1
    go_wp2_with fail
    refine Calls.mono HO3.out ?_
    rintro e Z1 ⟨oa3, oc3, l3, rfl, hz1, hO3, hl3, hs3⟩
    have HZ1 : Hid (Below w.heap.size w Z1 ∧ Sibs l l3) := ⟨HBv.out.trans (hz1.mono HBv.out.size), ⟨by rw [hl3, HD.out.2.2.2.1], hs3⟩⟩
    have HF3 : Hid _ := follow_any fa oa3 za n fc m oc3 d zc first l3 dss ord Z1 (HD.out.1.later HZ1.out.1) HD.out.2.1 hO3 hl3 (by have := HM.out.1; omega) (HD.out.2.2.2.2.1.later HZ1.out.1) HD.out.2.2.2.2.2 (by have := HM.out.2; omega)
    have HV1 : Hid (Below W2.heap.size W2 Z1) := hz1
    clear hz1 hO3 hl3 hs3 HO3
    go_wp2_with fail
    refine Calls.mono HF3.out ?_
    rintro e Z2 ⟨v3, at3, en3, rfl, hf3, hn3, hb3⟩
    have HZ2 : Hid (Below w.heap.size w Z2 ∧ FolOut l3 dss ord first n Z2 v3 at3 en3 ∧ Below W2.heap.size W2 Z2) := ⟨HZ1.out.1.trans (hb3.mono HZ1.out.1.size), hf3, HV1.out.trans (hb3.mono HV1.out.size)⟩
    clear hf3 hn3 hb3 HF3
    by_cases hg : en3 = 0
    · have n5 : (en3 == 0) = true := by simp [hg]
      have n6 : (en3 != 0) = false := by simp [hg]
      obtain ⟨hw0, halive⟩ := fol_alive HZ2.out.2.1 hg (H1.out.2.2.symm.trans HZ1.out.2) (by rw [HD.out.2.2.1.len, H1.out.2.2.len])
      have HAl : Hid _ := halive
      subst hg
      have hen : 10 < m ∧ en = 170 := by
        rcases hOut.out with ⟨h1, _, _, h4⟩ | ⟨_, h2, _⟩ | ⟨_, _, _, h4, _⟩ | ⟨h1, h2, h3, h4, h5, h6⟩
        · exact ⟨by rw [H1.out.2.2.len, HD.out.2.2.2.1] at h1; exact h1, h4⟩
        · exact absurd hw0 h2
        · cases h4
        · obtain ⟨ks', _, h8⟩ := HAl.out h1
          exact absurd h8 (h6 ks')
      obtain ⟨hen1, rfl⟩ := hen
      have n10 : decide ((10 : Int) < (m : Int)) = true := decide_eq_true (by omega)
      clear hw0 halive
      go_wp2_with fail
      refine Calls.mono (heads_any Z2) ?_
      rintro e Z3 ⟨rfl, hz3⟩
      have HZ3 : Hid (Below w.heap.size w Z3) := HZ2.out.1.trans (hz3.mono HZ2.out.1.size)
      clear hz3
      go_wp2_with fail
      go_ret
      exact ⟨rfl, HZ3.out⟩

    · have n5 : (en3 == 0) = false := by simp [hg]
      have n6 : (en3 != 0) = true := by simp [hg]
      go_wp2_with fail
      refine Calls.mono (heads_any Z2) ?_
      rintro e Z3 ⟨rfl, hz3⟩
      have HZ3 : Hid (Below w.heap.size w Z3) := HZ2.out.1.trans (hz3.mono HZ2.out.1.size)
      clear hz3
      go_wp2_with fail
      go_ret
      exact ⟨rfl, HZ3.out⟩

  | true =>
    obtain ⟨h10, hwz, rfl, hks⟩ : l1.length ≤ 10 ∧ wrg n l1 = 0 ∧ en = 0 ∧ ∃ ks za zc, v = .slice za ks.length zc ∧ (spA l1 dss).Finds 0 first ks ∧ W2.ownsRow W1.heap.size 3 1 (.slice za ks.length zc) ks.length (ks.map iv) := by
      rcases hOut.out with ⟨_, _, h3, _⟩ | ⟨_, _, _, h3, _⟩ | ⟨h1, h2, h3, _, h5⟩ | ⟨_, _, _, h3, _⟩
      · cases h3
      · cases h3
      · exact ⟨h1, h2, h3, h5⟩
      · cases h3
    obtain ⟨ks, za1, zc1, rfl, hF, hrow⟩ := hks
    have hmap : ks.map iv = (ks.map (fun x : Nat => (x : Int))).map (Value.int .i64) := by rw [List.map_map]; rfl
    rw [hmap] at hrow
    obtain ⟨kk, hkk⟩ : ∃ kk, ks.length = kk := ⟨_, rfl⟩
    rw [hkk] at hrow ⊢
    obtain ⟨za9, zc9, hv1, hzk⟩ := zrow_own hrow (by rw [List.length_map]; exact hkk)
    cases hv1
    obtain ⟨bsF, hfolR, hwhl⟩ := comp_fol h10 (by rw [HD.out.2.2.1.len, H1.out.2.2.len]) (first := first) ks [] first (by simp) (by simpa [mask] using hF.comp) .nil
    rw [List.nil_append] at hfolR hwhl
    have hkl : kk ≤ 10 := by
      rw [← hkk]
      obtain ⟨ks2, e1, e2, e3⟩ := fol_nat hfolR (by simp)
      have hnd := fol_nodup hfolR (by simp)
      rw [e1] at hnd
      have hnd2 : ks2.Nodup := (List.pairwise_map.1 hnd).imp fun h e => h (by rw [e])
      have := nodup_lt hnd2 e3
      try simp at e2
      omega
    have HKs : Hid (l1.length ≤ 10 ∧ wrg n l1 = 0 ∧ (spA l1 dss).Finds 0 first ks ∧ kk ≤ 10 ∧ ks.length = kk) := ⟨h10, hwz, hF, hkl, hkk⟩
    have HFo : Hid (FolR l1 dss (ks.map (fun x : Nat => (x : Int))) first ks.length bsF ∧ Whl l1 (ks.map (fun x : Nat => (x : Int))) l1.length) := ⟨hfolR, hwhl⟩
    have HZ2k : Hid (ZRow W2 za1 (ks.map (fun x : Nat => (x : Int)))) := hzk
    have HO2 : Hid _ := ops_any oa m oc l dss W2 (HD.out.2.2.1.later HB2.out) HD.out.2.2.2.1 HM.out.1
    clear h10 hwz hF hrow hmap hkk hzk hfolR hwhl hkl
    go_wp2_with fail
    refine Calls.mono HO2.out ?_
    rintro e W3 ⟨oa2, oc2, l2, rfl, hb3, hO2, hl2, hs2⟩
    have H3 : Hid (Below w.heap.size w W3 ∧ Sibs l l2 ∧ Below W2.heap.size W2 W3) := ⟨HB2.out.trans (hb3.mono HB2.out.size), ⟨by rw [hl2, HD.out.2.2.2.1], hs2⟩, hb3⟩
    have HF2 : Hid _ := follow_any fa oa2 za1 n fc m oc2 kk zc1 first l2 dss (ks.map (fun x : Nat => (x : Int))) W3 (HD.out.1.later H3.out.1) HD.out.2.1 hO2 hl2 (by have := HM.out.1; omega) (HZ2k.out.later hb3) (by rw [List.length_map]; exact HKs.out.2.2.2.2) (by have := HKs.out.2.2.2.1; omega)
    clear hb3 hO2 hl2 hs2 HO2
    go_wp2_with fail
    refine Calls.mono HF2.out ?_
    rintro e W4 ⟨v2, at2, en2, rfl, hf2, hn2, hb4⟩
    have h0 : en2 = 0 := fol_ok ((H3.out.2.1.symm.trans H1.out.2.2).folOut hf2) HKs.out.2.1 (by have := HFo.out.1; rw [List.length_map]; exact this) HFo.out.2
    subst h0
    have HBv : Hid (Below w.heap.size w W4) := H3.out.1.trans (hb4.mono H3.out.1.size)
    have HZk : Hid (ZRow W4 za1 (ks.map (fun x : Nat => (x : Int)))) := HZ2k.out.later (H3.out.2.2.trans (hb4.mono H3.out.2.2.size))
    clear hf2 hn2 hb4 HF2
    have HO3 : Hid _ := ops_any oa m oc l dss W4 (HD.out.2.2.1.later HBv.out) HD.out.2.2.2.1 HM.out.1
    go_wp2_with fail
    refine Calls.mono HO3.out ?_
    rintro e Z1 ⟨oa3, oc3, l3, rfl, hz1, hO3, hl3, hs3⟩
    have HZ1 : Hid (Below w.heap.size w Z1 ∧ Sibs l l3) := ⟨HBv.out.trans (hz1.mono HBv.out.size), ⟨by rw [hl3, HD.out.2.2.2.1], hs3⟩⟩
    have HF3 : Hid _ := follow_any fa oa3 za n fc m oc3 d zc first l3 dss ord Z1 (HD.out.1.later HZ1.out.1) HD.out.2.1 hO3 hl3 (by have := HM.out.1; omega) (HD.out.2.2.2.2.1.later HZ1.out.1) HD.out.2.2.2.2.2 (by have := HM.out.2; omega)
    have HV1 : Hid (Below W4.heap.size W4 Z1) := hz1
    clear hz1 hO3 hl3 hs3 HO3
    go_wp2_with fail
    refine Calls.mono HF3.out ?_
    rintro e Z2 ⟨v3, at3, en3, rfl, hf3, hn3, hb3⟩
    have HZ2 : Hid (Below w.heap.size w Z2 ∧ FolOut l3 dss ord first n Z2 v3 at3 en3 ∧ Below W4.heap.size W4 Z2) := ⟨HZ1.out.1.trans (hb3.mono HZ1.out.1.size), hf3, HV1.out.trans (hb3.mono HV1.out.size)⟩
    clear hf3 hn3 hb3 HF3
    by_cases hg : en3 = 0
    · have n5 : (en3 == 0) = true := by simp [hg]
      have n6 : (en3 != 0) = false := by simp [hg]
      obtain ⟨hw0, halive⟩ := fol_alive HZ2.out.2.1 hg (H1.out.2.2.symm.trans HZ1.out.2) (by rw [HD.out.2.2.1.len, H1.out.2.2.len])
      have HAl : Hid _ := halive
      subst hg
      have HCt : Hid (∃ ks' : List Nat, ord = ks'.map (fun x : Nat => (x : Int)) ∧ NotBehind ks ks') := by
        obtain ⟨ks', h1, h2⟩ := HAl.out HKs.out.1
        exact ⟨ks', h1, HKs.out.2.2.1.least h2⟩
      have n10 : decide ((10 : Int) < (m : Int)) = false := decide_eq_false (by have := HKs.out.1; have := H1.out.2.2.len; have := HD.out.2.2.2.1; omega)
      have HNb : Hid (Calls Try.prog 21 #[.slice za1 kk zc1, .slice za d zc] Z2 fun e w' => e = .returned (.bool true) ∧ ∃ q, w' = Z2.drewN q) := by
        obtain ⟨ks', h1, h2⟩ := HCt.out
        have h3 := HD.out.2.2.2.2.1.later HZ2.out.1
        have h4 : ks'.length = d := by have := HD.out.2.2.2.2.2; rw [h1, List.length_map] at this; exact this
        rw [h1] at h3
        exact notBehind_any za1 za zc1 zc kk d ks ks' Z2 HKs.out.2.2.2.2 h4 (by have := HKs.out.2.2.2.1; omega) (by have := HM.out.2; omega) ((HZk.out.later HZ2.out.2.2)) h3 h2
      clear hw0 halive
      go_wp2_with fail
      refine Calls.mono HNb.out ?_
      rintro e Z3 ⟨rfl, q3, hq3⟩
      have HZ3 : Hid (Below w.heap.size w Z3) := by
        subst hq3
        exact HZ2.out.1.trans ⟨rfl, rfl, rfl, Nat.le_refl _, fun _ _ => rfl⟩
      clear hq3
      go_wp2_with fail
      refine Calls.mono (heads_any Z3) ?_
      rintro e Z4 ⟨rfl, hz4⟩
      have HZ4 : Hid (Below w.heap.size w Z4) := HZ3.out.trans (hz4.mono HZ3.out.size)
      clear hz4
      go_wp2_with fail
      go_ret
      exact ⟨rfl, HZ4.out⟩

    · have n5 : (en3 == 0) = false := by simp [hg]
      have n6 : (en3 != 0) = true := by simp [hg]
      go_wp2_with fail
      refine Calls.mono (heads_any Z2) ?_
      rintro e Z3 ⟨rfl, hz3⟩
      have HZ3 : Hid (Below w.heap.size w Z3) := HZ2.out.1.trans (hz3.mono HZ2.out.1.size)
      clear hz3
      go_wp2_with fail
      go_ret
      exact ⟨rfl, HZ3.out⟩

end Go.Proofs.Ytjkoambfecmglaa

namespace Go.Proofs.Ytjkoambfecmglaa
open Go.RowKit
set_option linter.unusedVariables false
set_option linter.unusedSimpArgs false
set_option maxRecDepth 100000
abbrev zs (ks : List Nat) : List Int := ks.map (fun x : Nat => (x : Int))
/-- what the document's search answers from here on -/
def FindOut (l : List Opv) (dss : List (List Nat)) (pre bs : List Nat) (w' : World) (v : Value) (ok : Bool) : Prop :=
  (ok = true ∧ ∃ (t : List Nat) (za : Option Addr) (zc : Nat), v = .slice za (pre ++ t).length zc ∧ (spA l dss).Finds (mask pre) bs t ∧ ZRow w' za (zs (pre ++ t))) ∨
  (ok = false ∧ v = .slice none 0 0 ∧ (spA l dss).Dead (mask pre) bs)
def FindEnd (l : List Opv) (dss : List (List Nat)) (pre bs : List Nat) (w : World) (e : Ending) (w' : World) : Prop :=
  ∃ v ok, e = .returned (.tuple #[v, .bool ok]) ∧ FindOut l dss pre bs w' v ok ∧ Below w.heap.size w w'
theorem FindEnd.mk {l : List Opv} {dss : List (List Nat)} {pre bs : List Nat} {w w' : World} {e : Ending} (v : Value) (ok : Bool) (h1 : e = .returned (.tuple #[v, .bool ok])) (h2 : FindOut l dss pre bs w' v ok) (h3 : Below w.heap.size w w') : FindEnd l dss pre bs w e w' := ⟨v, ok, h1, h2, h3⟩
theorem zs_mem {ks : List Nat} {k : Nat} : (k : Int) ∈ zs ks ↔ k ∈ ks := by
  constructor
  · intro h
    obtain ⟨y, hy, e⟩ := List.mem_map.1 h
    have e' : y = k := Int.ofNat.inj e
    rw [← e']; exact hy
  · intro h; exact List.mem_map.2 ⟨k, h, rfl⟩
theorem ok_may {l : List Opv} {dss : List (List Nat)} (hl : l.length ≤ 10) (hd : dss.length = l.length) {pre : List Nat} (hp : ∀ x ∈ pre, x < l.length) {bs ds : List Nat} {k : Nat} {p : Opv} (hk : l[k]? = some p) (hds : dss[k]? = some ds) :
    (spA l dss).ok (mask pre) bs k = true ↔ MayN l (zs pre) (k : Int) ∧ p.fit bs ds = true := by
  have hkl := (List.getElem?_eq_some_iff.1 hk).1
  have e1 : l[k] = p := (List.getElem?_eq_some_iff.1 hk).2
  have e2 : dss[k]'(by omega) = ds := (List.getElem?_eq_some_iff.1 hds).2
  rw [ok_iff hl hd hp hkl, e1, e2]
  constructor
  · rintro ⟨a, b, c⟩
    exact ⟨⟨fun h => a (zs_mem.1 h), k, p, rfl, hk, b⟩, c⟩
  · rintro ⟨⟨a, k', p', e, h, b⟩, c⟩
    have e' : k = k' := Int.ofNat.inj e
    subst e'
    rw [hk] at h; cases h
    exact ⟨fun h => a (zs_mem.2 h), b, c⟩
theorem eff_of {l : List Opv} {dss : List (List Nat)} (hd : dss.length = l.length) {bs ds : List Nat} {k : Nat} {p : Opv} (hk : l[k]? = some p) (hds : dss[k]? = some ds) : (spA l dss).eff k bs = p.eff bs ds := by
  have hkl := (List.getElem?_eq_some_iff.1 hk).1
  rw [eff_at hd hkl, (List.getElem?_eq_some_iff.1 hk).2, (List.getElem?_eq_some_iff.1 hds).2]
/-- so far nothing leads on -/
def DeadTo (l : List Opv) (dss : List (List Nat)) (pre bs : List Nat) (i : Nat) : Prop := ∀ j, j < i → (spA l dss).ok (mask pre) bs j = true → (spA l dss).Dead (mask pre ||| 2 ^ j) ((spA l dss).eff j bs)
theorem DeadTo.succ {l : List Opv} {dss : List (List Nat)} {pre bs : List Nat} {i : Nat} (h : DeadTo l dss pre bs i) (h2 : (spA l dss).ok (mask pre) bs i = true → (spA l dss).Dead (mask pre ||| 2 ^ i) ((spA l dss).eff i bs)) : DeadTo l dss pre bs (i + 1) := fun j hj ho => by
  rcases Nat.lt_or_ge j i with h1 | h1
  · exact h j h1 ho
  · have e : j = i := by omega
    subst e; exact h2 ho
theorem belowDrawn {W V : World} {g : Option Nat} {B : Nat} (hg : W.grownBy V g) (hB : B ≤ W.heap.size) (hx : ∀ k, g = some k → B ≤ k) : Below B W V := (Below.refl B W).grown hg hB hx
set_option maxHeartbeats 16000000 in
theorem rFind_step (ba oa da : Option Addr) (n bc m oc d dc : Nat) (bs pre : List Nat) (l : List Opv) (dss : List (List Nat)) (w : World) (hb : BRow w ba bc bs) (hn : bs.length = n) (h : OpsD w oa l dss) (hm : l.length = m) (hm10 : m ≤ 10) (hw : wrg n l = 0) (hz : ZRow w da (zs pre)) (hd : pre.length = d) (hd10 : d ≤ 10) (hzn : da = none → d = 0 ∧ dc = 0) (hp : ∀ x ∈ pre, x < m)
    (IH : ∀ (W : World) (k : Nat) (ba' : Option Addr) (a' : Addr) (bc' dc' : Nat) (bs' : List Nat), Below w.heap.size w W → k < m → ¬ k ∈ pre → bs'.length = n → BRow W ba' bc' bs' → ZRow W (some a') (zs (pre ++ [k])) → Calls Try.prog 34 #[.slice ba' n bc', .slice oa m oc, .slice (some a') (d + 1) dc'] W (FindEnd l dss (pre ++ [k]) bs' W)) :
    Calls Try.prog 34 #[.slice ba n bc, .slice oa m oc, .slice da d dc] w (FindEnd l dss pre bs w) := by
  have HWh : Hid _ := rWhole_any oa da m oc d dc l (zs pre) w h.ops hm (by omega) hz (by rw [List.length_map]; exact hd) (by omega)
  have HD : Hid (BRow w ba bc bs ∧ bs.length = n ∧ OpsD w oa l dss ∧ l.length = m ∧ ZRow w da (zs pre) ∧ pre.length = d) := ⟨hb, hn, h, hm, hz, hd⟩
  have HP : Hid (wrg n l = 0 ∧ (da = none → d = 0 ∧ dc = 0) ∧ (∀ x ∈ pre, x < l.length) ∧ l.length ≤ 10 ∧ dss.length = l.length) := ⟨hw, hzn, by rw [hm]; exact hp, by omega, h.len⟩
  have HI : Hid (∀ (W : World) (k : Nat) (ba' : Option Addr) (a' : Addr) (bc' dc' : Nat) (bs' : List Nat), Below w.heap.size w W → k < m → ¬ k ∈ pre → bs'.length = n → BRow W ba' bc' bs' → ZRow W (some a') (zs (pre ++ [k])) → Calls Try.prog 34 #[.slice ba' n bc', .slice oa m oc, .slice (some a') (d + 1) dc'] W (FindEnd l dss (pre ++ [k]) bs' W)) := IH
  have HNx : Hid (∀ W (k : Nat), Below w.heap.size w W → Calls Try.prog 29 #[.slice oa m oc, .slice da d dc, .int .i64 (k : Int)] W fun e w' => ∃ r : Bool, e = .returned (.bool r) ∧ (r = true ↔ MayN l (zs pre) (k : Int)) ∧ Below W.heap.size W w') := fun W k hb9 => rNext_all oa da m oc d dc l (zs pre) k W (h.ops.later hb9) hm (by omega) (hz.later hb9) (by rw [List.length_map]; exact hd) (by omega)
  clear hb hn h hm hz hd hw hzn hp IH
  go_enter Try.func34, Try.ntmps34
  go_wp2_with fail
  refine Calls.mono HWh.out ?_
  rintro e W0 ⟨r, rfl, hr, hb0⟩
  have HB0 : Hid (Below w.heap.size w W0 ∧ (r = true ↔ Whl l (zs pre) m)) := ⟨hb0, hr⟩
  clear hb0 hr HWh
  cases r with
  | true =>
    have HDn : Hid ((spA l dss).Finds (mask pre) bs []) := .done ((done_iff HP.out.2.2.2.1 HP.out.2.2.1).2 (by have := HB0.out.2.1 rfl; rw [← HD.out.2.2.2.1] at this; exact this))
    have HRz : Hid (ZRow W0 da (zs (pre ++ []))) := by
      have := HD.out.2.2.2.2.1.later HB0.out.1
      rw [← List.append_nil pre] at this; exact this
    have HLn : Hid ((pre ++ []).length = d) := by show _ = _; rw [List.append_nil]; exact HD.out.2.2.2.2.2
    go_wp2
    go_ret2
    exact FindEnd.mk (.slice da d dc) true rfl (.inl ⟨rfl, [], da, dc, by rw [HLn.out], HDn.out, HRz.out⟩) HB0.out.1
  | false =>
    have HNd : Hid (Sub (spA l dss).A (mask pre) = false) := by
      show _ = _
      cases hs : Sub (spA l dss).A (mask pre) with
      | false => rfl
      | true =>
        have h1 := (done_iff HP.out.2.2.2.1 HP.out.2.2.1).1 hs
        rw [HD.out.2.2.2.1] at h1
        cases HB0.out.2.2 h1
    go_wp2
    go_loopw [9] (fun iv wr => ∃ i : Nat, i ≤ m ∧ iv = .int .i64 (i : Int) ∧ Hid (Below w.heap.size w wr ∧ DeadTo l dss pre bs i)) (fun iv _ => m - (intOf iv).toNat)
    case atStart => exact ⟨0, Nat.zero_le _, rfl, HB0.out.1, fun j hj => by omega⟩
    case round =>
      obtain ⟨i, hi, rfl, HB⟩ := hrel
      by_cases hlt : i < m
      · have n9 : decide ((i : Int) < (m : Int)) = true := decide_eq_true (by omega)
        have ii0 : (0 : Int) ≤ (i : Int) := by omega
        have ii9 : (i : Int) < (m : Int) := by omega
        have HIl : Hid (i < m) := hlt
        obtain ⟨p, hk⟩ : ∃ p, l[i]? = some p := ⟨_, List.getElem?_eq_getElem (by rw [HD.out.2.2.2.1]; exact hlt)⟩
        obtain ⟨ds, hds⟩ : ∃ ds, dss[i]? = some ds := ⟨_, List.getElem?_eq_getElem (by rw [HP.out.2.2.2.2, HD.out.2.2.2.1]; exact hlt)⟩
        have HK : Hid (l[i]? = some p ∧ dss[i]? = some ds) := ⟨hk, hds⟩
        have HN : Hid _ := HNx.out wr i HB.out.1
        clear hk hds
        go_wp2_with fail
        refine Calls.mono HN.out ?_
        rintro e W2 ⟨r, rfl, hr, hb2⟩
        have HB2 : Hid (Below w.heap.size w W2 ∧ (r = true ↔ MayN l (zs pre) (i : Int))) := ⟨HB.out.1.trans (hb2.mono HB.out.1.size), hr⟩
        clear hr hb2 HN
        cases r with
        | false =>
          have HE : Hid (DeadTo l dss pre bs (i + 1)) := HB.out.2.succ fun ho => by
            have h1 := (ok_may HP.out.2.2.2.1 HP.out.2.2.2.2 HP.out.2.2.1 HK.out.1 HK.out.2).1 ho
            cases HB2.out.2.2 h1.1
          go_wp2
          go_roundw
          case rel => exact ⟨i + 1, HIl.out, by go_num, HB2.out.1, HE.out⟩
          case measure => simp [intOf]; omega
        | true =>
          have HMy : Hid (MayN l (zs pre) (i : Int)) := HB2.out.2.1 rfl
          obtain ⟨ob, oo, e1, hc⟩ := ops_at (HD.out.2.2.1.ops.later HB2.out.1) HK.out.1
          subst e1
          have c0 : W2.cell? ⟨ob, oo + i * 7, none⟩ = some (.int .i64 p.k) := hc 0 _ rfl
          have c1 : W2.cell? ⟨ob, oo + i * 7 + 1, none⟩ = some (.int .i64 p.fr) := hc 1 _ rfl
          have c2 : W2.cell? ⟨ob, oo + i * 7 + 2, none⟩ = some (.int .i64 p.to_) := hc 2 _ rfl
          have c3 : W2.cell? ⟨ob, oo + i * 7 + 3, none⟩ = some (.int .i64 p.off) := hc 3 _ rfl
          have c4 : W2.cell? ⟨ob, oo + i * 7 + 4, none⟩ = some (.int .i64 p.len) := hc 4 _ rfl
          have c5 : W2.cell? ⟨ob, oo + i * 7 + 5, none⟩ = some (.slice p.da p.n p.dc) := hc 5 _ rfl
          have c6 : W2.cell? ⟨ob, oo + i * 7 + 6, none⟩ = some (.bool p.sy) := hc 6 _ rfl
          have hrow := HD.out.2.2.1.row i p ds HK.out.1 HK.out.2
          have HPl : Hid _ := rPlay_any ba bc n p bs ds W2 (HD.out.1.later HB2.out.1) HD.out.2.1 (hrow.1.later HB2.out.1) hrow.2 ((wrg_zero HP.out.1).2 i p HK.out.1) (wrg_zero HP.out.1).1
          clear hc hrow
          go_wp2_with fail
          refine Calls.mono HPl.out ?_
          rintro e W3 ⟨co3, cc3, b3, bs3, rfl, hb3, hbs3, hl3, hr3, -, hbl3⟩
          have HB3 : Hid (Below w.heap.size w W3 ∧ BRow W3 co3 cc3 bs3 ∧ bs3.length = n ∧ b3 = p.fit bs ds ∧ (b3 = true → bs3 = p.eff bs ds)) := ⟨HB2.out.1.trans (hbl3.mono HB2.out.1.size), hr3, hl3, hb3, hbs3⟩
          clear hb3 hbs3 hl3 hr3 hbl3 HPl c0 c1 c2 c3 c4 c5 c6
          cases b3 with
          | false =>
            have HE : Hid (DeadTo l dss pre bs (i + 1)) := HB.out.2.succ fun ho => by
              have h1 := (ok_may HP.out.2.2.2.1 HP.out.2.2.2.2 HP.out.2.2.1 HK.out.1 HK.out.2).1 ho
              rw [← HB3.out.2.2.2.1] at h1
              cases h1.2
            go_wp2
            go_roundw
            case rel => exact ⟨i + 1, HIl.out, by go_num, HB3.out.1, HE.out⟩
            case measure => simp [intOf]; omega
          | true =>
            have HOk : Hid ((spA l dss).ok (mask pre) bs i = true ∧ (spA l dss).eff i bs = bs3 ∧ ¬ i ∈ pre) := ⟨(ok_may HP.out.2.2.2.1 HP.out.2.2.2.2 HP.out.2.2.1 HK.out.1 HK.out.2).2 ⟨HMy.out, HB3.out.2.2.2.1.symm⟩, by rw [eff_of HP.out.2.2.2.2 HK.out.1 HK.out.2, HB3.out.2.2.2.2 rfl], fun h => HMy.out.1 (zs_mem.2 h)⟩
            have HNw : Hid (∀ ad, da = some ad → ∀ j u, ((zs pre).map (Value.int .i64))[j]? = some u → W3.cell? (ad.add j) = some u) := fun ad e j u hu => by
              rw [List.getElem?_map] at hu
              by_cases hj : j < (zs pre).length
              · rw [List.getElem?_eq_getElem hj] at hu
                obtain ⟨b, off, e2, hc⟩ := (HD.out.2.2.2.2.1.later HB3.out.1).at_ (by intro e0; rw [e0] at hj; simp at hj)
                rw [e] at e2; cases e2
                cases hu
                rw [add_plain]; exact hc j hj
              · rw [List.getElem?_eq_none (by omega)] at hu; cases hu
            have HOne : Hid (∀ u ∈ (zs pre).map (Value.int .i64), u.oneCell' = true) := fun u hu => by
              obtain ⟨x, _, rfl⟩ := List.mem_map.1 hu
              rfl
            have HLz : Hid (((zs pre).map (Value.int .i64)).length = d) := by show _ = _; rw [List.length_map, List.length_map]; exact HD.out.2.2.2.2.2
            obtain ⟨i0, hi0, hz0, hz1, hz2⟩ := info_parts Try.info3
            obtain ⟨nv, hnv⟩ : ∃ nv, (zs pre).map (Value.int .i64) = nv := ⟨_, rfl⟩
            have HNv : Hid ((zs pre).map (Value.int .i64) = nv) := hnv
            rw [hnv] at HNw HOne HLz
            clear hnv
            go_wp2_with (at_builtin; refine wpList_append_two _ rfl _ _ 24 rfl W3.heap.size 3 i0 (.int .i64 0) 8 Try.underlying24 hi0 hz0 hz1 hz2 rfl (.slice none 0 0) 0 [] rfl (World.ownsRow_nil _ _ _ _) da d dc nv rfl HP.out.2.1 HLz.out HNw.out HOne.out (by unfold maxLen; omega) (by omega) (Nat.le_refl _) ?_)
            intro v4 W4 ho4 hg4 _
            try rw [Nat.zero_add] at ho4
            try rw [List.nil_append] at ho4
            obtain ⟨a4, k4, e4⟩ := owns_form ho4
            subst e4
            have H4 : Hid (W4.ownsRow W3.heap.size 3 1 (.slice a4 d k4) d nv ∧ Below W3.heap.size W3 W4) := ⟨ho4, belowDrawn hg4 (Nat.le_refl _) (fun k e => by cases e)⟩
            have HO5 : Hid ((W4.alloc (.cells #[.int .i64 (i : Int)] 3)).ownsRow W3.heap.size 3 1 (.slice a4 d k4) d nv) := owns_far ho4 (World.grownBy_alloc W4 (.cells #[.int .i64 (i : Int)] 3) none) (by simp)
            have HNw5 : Hid (∀ ad, some (⟨W4.heap.size, 0, none⟩ : Addr) = some ad → ∀ j u, [Value.int .i64 (i : Int)][j]? = some u → (W4.alloc (.cells #[.int .i64 (i : Int)] 3)).cell? (ad.add j) = some u) := by
              rintro ad e j u hu
              cases e
              rcases j with _ | j
              · cases hu
                exact blk_at (heap_new _ _) 0
              · simp at hu
            have HBg : Hid (W3.heap.size ≤ W4.heap.size + 1) := Nat.le_succ_of_le H4.out.2.size
            clear ho4 hg4
            go_wp2_with (at_builtin; refine wpList_append_two _ rfl _ _ 24 rfl W3.heap.size 3 i0 (.int .i64 0) 8 Try.underlying24 hi0 hz0 hz1 hz2 rfl (.slice a4 d k4) d nv rfl HO5.out (some ⟨W4.heap.size, 0, none⟩) 1 1 [.int .i64 (i : Int)] rfl (fun e => by cases e) rfl HNw5.out (by simp [Value.oneCell']) (by unfold maxLen; omega) (by omega) (by rw [World.size_alloc]; exact HBg.out) ?_)
            intro v5 W5 ho5 hg5 _
            obtain ⟨g5, k5, e5⟩ : ∃ g5 k5, v5 = .slice (some g5) (d + 1) k5 := by
              rcases ho5.2 with ⟨_, h1⟩ | ⟨g, c, cur, h1, _⟩
              · omega
              · exact ⟨_, _, h1⟩
            subst e5
            have e9 : nv ++ [Value.int .i64 (i : Int)] = (zs (pre ++ [i])).map (Value.int .i64) := by rw [← HNv.out]; simp
            rw [e9] at ho5
            obtain ⟨a9, c9, e8, hz5⟩ := zrow_own ho5 (by rw [List.length_map, List.length_append, HD.out.2.2.2.2.2]; rfl)
            cases e8
            have hb5 : Below W3.heap.size W3 W5 := (H4.out.2.alloc H4.out.2.size (.cells #[.int .i64 (i : Int)] 3)).grown hg5 (by rw [World.size_alloc]; exact HBg.out) (fun k e => (owns_in HO5.out e).1)
            have HB5 : Hid (Below w.heap.size w W5) := HB3.out.1.trans (hb5.mono HB3.out.1.size)
            have HIc : Hid _ := HI.out W5 i co3 g5 cc3 k5 bs3 HB5.out HIl.out HOk.out.2.2 HB3.out.2.2.1 (HB3.out.2.1.later hb5) hz5
            clear ho5 hg5 e9 hz5 hb5
            go_wp2_with fail
            refine Calls.mono HIc.out ?_
            rintro e W6 ⟨v6, ok6, rfl, hf6, hb6⟩
            have HF6 : Hid (FindOut l dss (pre ++ [i]) bs3 W6 v6 ok6) := hf6
            have HB6 : Hid (Below w.heap.size w W6) := HB5.out.trans (hb6.mono HB5.out.size)
            clear hf6 hb6 HIc
            cases ok6 with
            | true =>
              have HG : Hid (FindOut l dss pre bs W6 v6 true) := by
                rcases HF6.out with ⟨_, t, za, zc, h1, h2, h3⟩ | ⟨h1, _⟩
                · refine .inl ⟨rfl, i :: t, za, zc, ?_, ?_, ?_⟩
                  · rw [h1]; simp
                  · rw [mask_snoc, ← HOk.out.2.1] at h2
                    exact .step HNd.out (by show i < l.length; rw [HD.out.2.2.2.1]; exact HIl.out) HOk.out.1 HB.out.2 h2
                  · rw [List.append_assoc] at h3; exact h3
                · cases h1
              go_wp2
              go_ret2
              exact FindEnd.mk v6 true rfl HG.out HB6.out
            | false =>
              have HE : Hid (DeadTo l dss pre bs (i + 1)) := HB.out.2.succ fun _ => by
                rcases HF6.out with ⟨h1, _⟩ | ⟨_, _, h2⟩
                · cases h1
                · rw [mask_snoc] at h2; rw [HOk.out.2.1]; exact h2
              go_wp2
              go_roundw
              case rel => exact ⟨i + 1, HIl.out, by go_num, HB6.out, HE.out⟩
              case measure => simp [intOf]; omega
      · have n9 : decide ((i : Int) < (m : Int)) = false := decide_eq_false (by omega)
        have HEn : Hid ((spA l dss).Dead (mask pre) bs) := by
          have e : i = m := Nat.le_antisymm hi (Nat.le_of_not_lt hlt)
          refine SP.dead_of HNd.out fun k hk ho => HB.out.2 k ?_ ho
          have hk' : k < l.length := hk
          rw [HD.out.2.2.2.1] at hk'
          omega
        go_wp2
        go_ret2
        exact FindEnd.mk (.slice none 0 0) false rfl (.inr ⟨rfl, rfl, HEn.out⟩) HB.out.1
/-- the document's search -/
theorem rFind_any (oa : Option Addr) (n m oc : Nat) (l : List Opv) (dss : List (List Nat)) (hm : l.length = m) (hm10 : m ≤ 10) (hw : wrg n l = 0) : ∀ (f : Nat) (ba da : Option Addr) (bc d dc : Nat) (bs pre : List Nat) (w : World), m - d ≤ f → BRow w ba bc bs → bs.length = n → OpsD w oa l dss → ZRow w da (zs pre) → pre.length = d → (da = none → d = 0 ∧ dc = 0) → (∀ x ∈ pre, x < m) → pre.Nodup →
    Calls Try.prog 34 #[.slice ba n bc, .slice oa m oc, .slice da d dc] w (FindEnd l dss pre bs w)
  | f, ba, da, bc, d, dc, bs, pre, w, hf, hb, hn, h, hz, hd, hzn, hp, hnd => by
    have hdm : d ≤ m := by rw [← hd]; exact nodup_lt hnd hp
    refine rFind_step ba oa da n bc m oc d dc bs pre l dss w hb hn h hm hm10 hw hz hd (by omega) hzn hp ?_
    intro W k ba' a' bc' dc' bs' hW hk hkp hn' hb' hz'
    have hnd' : (pre ++ [k]).Nodup := List.nodup_append.2 ⟨hnd, by simp, fun a ha b hb9 e => by
      simp at hb9
      rw [e, hb9] at ha
      exact hkp ha⟩
    have hp' : ∀ x ∈ pre ++ [k], x < m := fun x hx => by
      rcases List.mem_append.1 hx with h1 | h1
      · exact hp x h1
      · rw [List.mem_singleton.1 h1]; exact hk
    have hd' : (pre ++ [k]).length = d + 1 := by rw [List.length_append, hd]; rfl
    have hdm' : d + 1 ≤ m := by rw [← hd']; exact nodup_lt hnd' hp'
    cases f with
    | zero => omega
    | succ f => exact rFind_any oa n m oc l dss hm hm10 hw f ba' (some a') bc' (d + 1) dc' bs' (pre ++ [k]) W (by omega) hb' hn' (h.later hW) hz' hd' (fun e => by cases e) hp' hnd'
end Go.Proofs.Ytjkoambfecmglaa

namespace Go.Proofs.Ytjkoambfecmglaa
open Go.RowKit
set_option linter.unusedVariables false
set_option linter.unusedSimpArgs false
set_option maxRecDepth 100000
/-- what the document's Order answers -/
def ROut (l : List Opv) (dss : List (List Nat)) (first : List Nat) (n : Nat) (w' : World) (v : Value) (ok : Bool) (en : Nat) : Prop :=
  (10 < l.length ∧ v = .slice none 0 0 ∧ ok = false ∧ en = 170) ∨
  (l.length ≤ 10 ∧ wrg n l ≠ 0 ∧ v = .slice none 0 0 ∧ ok = false ∧ en = wrg n l) ∨
  (l.length ≤ 10 ∧ wrg n l = 0 ∧ en = 0 ∧ FindOut l dss [] first w' v ok)
def REnd (l : List Opv) (dss : List (List Nat)) (first : List Nat) (n : Nat) (w : World) (e : Ending) (w' : World) : Prop :=
  ∃ v ok en, e = .returned (.tuple #[v, .bool ok, .int .i64 (en : Nat)]) ∧ ROut l dss first n w' v ok en ∧ Below w.heap.size w w'
theorem REnd.mk {w w' : World} {l : List Opv} {dss : List (List Nat)} {first : List Nat} {n : Nat} {e : Ending} (v : Value) (ok : Bool) (en : Nat) (h1 : e = .returned (.tuple #[v, .bool ok, .int .i64 (en : Nat)])) (h2 : ROut l dss first n w' v ok en) (h3 : Below w.heap.size w w') : REnd l dss first n w e w' := ⟨v, ok, en, h1, h2, h3⟩
set_option maxHeartbeats 8000000 in
theorem rOrder_any (fa oa : Option Addr) (n fc m oc : Nat) (first : List Nat) (l : List Opv) (dss : List (List Nat)) (w : World) (hb : BRow w fa fc first) (hn : first.length = n) (h : OpsD w oa l dss) (hm : l.length = m) (hs : m ≤ 1099511627776) :
    Calls Try.prog 18 #[.slice fa n fc, .slice oa m oc] w (REnd l dss first n w) := by
  have HW0 : Hid _ := rWrong_any fa oa n fc m oc l w h.ops hm hs
  have HD : Hid (BRow w fa fc first ∧ first.length = n ∧ OpsD w oa l dss ∧ l.length = m) := ⟨hb, hn, h, hm⟩
  have HCp : Hid (∀ W, Below w.heap.size w W → Calls Try.prog 9 #[.slice fa n fc] W fun e w' => ∃ co cc, e = .returned (.slice co n cc) ∧ BRow w' co cc first ∧ Below W.heap.size W w') := fun W hb9 => (copy_any fa fc n first W (hb.later hb9) hn).mono (by rintro e w' ⟨co, cc, e1, h1, _, h3⟩; exact ⟨co, cc, e1, h1, h3⟩)
  clear hb hn h hm
  go_enter Try.func18, Try.ntmps18
  by_cases h9 : 4096 < n
  · have g1 : decide ((4096 : Int) < (n : Int)) = true := decide_eq_true (by omega)
    have HO : Hid (ROut l dss first n w (.slice none 0 0) false 170) := by
      have e1 : wrg n l = 170 := by unfold wrg; rw [if_pos h9]
      rcases Nat.lt_or_ge 10 l.length with h | h
      · exact .inl ⟨h, rfl, rfl, rfl⟩
      · exact .inr (.inl ⟨h, by rw [e1]; decide, rfl, rfl, e1.symm⟩)
    clear h9
    go_wp2_with fail
    go_ret3
    exact REnd.mk _ false 170 rfl HO.out (Below.refl _ _)
  · have g1 : decide ((4096 : Int) < (n : Int)) = false := decide_eq_false (by omega)
    by_cases h10 : 10 < m
    · have g2 : decide ((10 : Int) < (m : Int)) = true := decide_eq_true (by omega)
      have HM10 : Hid (10 < l.length) := by show 10 < l.length; rw [HD.out.2.2.2]; exact h10
      go_wp2_with fail
      go_ret3
      exact REnd.mk _ false 170 rfl (.inl ⟨HM10.out, rfl, rfl, rfl⟩) (Below.refl _ _)
    · have g2 : decide ((10 : Int) < (m : Int)) = false := decide_eq_false (by omega)
      have HM10 : Hid (l.length ≤ 10 ∧ m ≤ 10) := by constructor; rw [HD.out.2.2.2]; omega; omega
      clear h9 h10
      go_wp2_with fail
      refine Calls.mono HW0.out ?_
      rintro e W0 ⟨rfl, hb0⟩
      have HB0 : Hid (Below w.heap.size w W0) := hb0
      clear hb0 HW0
      by_cases hw : wrg n l = 0
      · have HWr : Hid (wrg n l = 0) := hw
        have hw' : ((wrg n l : Nat) : Int) = 0 := by rw [hw]; rfl
        rw [hw']
        have HC0 : Hid _ := HCp.out W0 HB0.out
        clear hw hw' HCp
        go_wp2_with fail
        refine Calls.mono HC0.out ?_
        rintro e W1 ⟨co, cc, rfl, hr1, hb1⟩
        have HB1 : Hid (Below w.heap.size w W1) := HB0.out.trans (hb1.mono HB0.out.size)
        have HFi : Hid _ := rFind_any oa n m oc l dss HD.out.2.2.2 HM10.out.2 HWr.out m co none cc 0 0 first [] W1 (by omega) hr1 HD.out.2.1 (HD.out.2.2.1.later HB1.out) ⟨fun h => absurd rfl h⟩ rfl (fun _ => ⟨rfl, rfl⟩) (by simp) (by simp)
        clear hb1 hr1 HC0
        go_wp2_with fail
        refine Calls.mono HFi.out ?_
        rintro e W2 ⟨v, ok, rfl, hf, hb2⟩
        have HF : Hid (FindOut l dss [] first W2 v ok ∧ Below w.heap.size w W2) := ⟨hf, HB1.out.trans (hb2.mono HB1.out.size)⟩
        clear hf hb2 HFi
        go_wp2_with fail
        go_ret3
        exact REnd.mk v ok 0 rfl (.inr (.inr ⟨HM10.out.1, HWr.out, rfl, HF.out.1⟩)) HF.out.2
      · have HWr : Hid (wrg n l ≠ 0) := hw
        obtain ⟨x, hx⟩ : ∃ x, wrg n l = x := ⟨_, rfl⟩
        rw [hx]
        have n8 : ((x : Int) == 0) = false := by rw [beq_eq_false_iff_ne]; omega
        have n7 : ((x : Int) != 0) = true := by rw [bne_iff_ne]; omega
        have HXx : Hid (wrg n l = x) := hx
        clear hx hw
        go_wp2_with fail
        go_ret3
        exact REnd.mk _ false x rfl (.inr (.inl ⟨HM10.out.1, HWr.out, rfl, rfl, HXx.out.symm⟩)) HB0.out
theorem owOf_sibs {l l2 : List Opv} (h : Sibs l l2) (i : Nat) : owOf l2 i = owOf l i := by
  unfold owOf
  apply List.filter_congr
  intro k _
  cases hp : l[k]? with
  | none =>
    have : l.length ≤ k := List.getElem?_eq_none_iff.1 hp
    rw [List.getElem?_eq_none (by rw [h.len]; exact this)]
  | some p =>
    obtain ⟨q, hq, hs⟩ := h.get hp
    rw [hq]; exact hs.ans
theorem befOf_sibs {l l2 : List Opv} (h : Sibs l l2) {p q : Opv} (hpq : Sib p q) (i : Nat) : befOf l2 q i = befOf l p i := by
  unfold befOf
  apply List.filter_congr
  intro k _
  cases hp : l[k]? with
  | none =>
    have : l.length ≤ k := List.getElem?_eq_none_iff.1 hp
    rw [List.getElem?_eq_none (by rw [h.len]; exact this)]
  | some a =>
    obtain ⟨b, hq, hs⟩ := h.get hp
    rw [hq]; exact hs.bef hpq
theorem ahOf_sibs {l l2 : List Opv} (h : Sibs l l2) (i : Nat) : ahOf l2 i = ahOf l i := by
  unfold ahOf
  rw [h.len]
  apply List.map_congr_left
  intro k _
  split
  · cases hp : l[k]? with
    | none =>
      have : l.length ≤ k := List.getElem?_eq_none_iff.1 hp
      rw [List.getElem?_eq_none (by rw [h.len]; exact this)]
    | some a =>
      obtain ⟨b, hq, hs⟩ := h.get hp
      rw [hq]
      show mask (befOf l2 b l.length) = mask (befOf l a l.length)
      rw [befOf_sibs h hs]
  · rfl
theorem spA_sibs {l l2 : List Opv} (h : Sibs l l2) (dss : List (List Nat)) : spA l2 dss = spA l dss := by
  show spOf l2 dss (mask (owOf l2 l2.length)) (ahOf l2 l2.length) = spOf l dss (mask (owOf l l.length)) (ahOf l l.length)
  rw [owOf_sibs h, ahOf_sibs h, h.len]
  unfold spOf
  congr 1
  · exact h.len
  · funext k bs
    cases hp : l[k]? with
    | none =>
      have : l.length ≤ k := List.getElem?_eq_none_iff.1 hp
      rw [List.getElem?_eq_none (by rw [h.len]; exact this)]
    | some a =>
      obtain ⟨b, hq, hs⟩ := h.get hp
      rw [hq]
      cases dss[k]? with
      | none => rfl
      | some ds => exact hs.fit bs ds
  · funext k bs
    cases hp : l[k]? with
    | none =>
      have : l.length ≤ k := List.getElem?_eq_none_iff.1 hp
      rw [List.getElem?_eq_none (by rw [h.len]; exact this)]
    | some a =>
      obtain ⟨b, hq, hs⟩ := h.get hp
      rw [hq]
      cases dss[k]? with
      | none => rfl
      | some ds => exact hs.eff bs ds
theorem comp_len {l : List Opv} {dss : List (List Nat)} (hl : l.length ≤ 10) (hd : dss.length = l.length) {first ks : List Nat} (h : (spA l dss).Comp 0 first ks) : ks.length ≤ 10 := by
  obtain ⟨bsF, hf, _⟩ := comp_fol hl hd (first := first) ks [] first (by simp) (by simpa [mask] using h) .nil
  rw [List.nil_append] at hf
  obtain ⟨ks2, e1, e2, e3⟩ := fol_nat hf (by simp)
  have hnd := fol_nodup hf (by simp)
  rw [e1] at hnd
  have hnd2 : ks2.Nodup := (List.pairwise_map.1 hnd).imp fun h e => h (by rw [e])
  have := nodup_lt hnd2 e3
  omega
/-- both Orders answer the same -/
theorem order_pair {l l1 : List Opv} {dss : List (List Nat)} {first : List Nat} {n B : Nat} {W W' : World} {v v' : Value} {ok ok' : Bool} {en en' : Nat} (hs : Sibs l l1) (hd : dss.length = l.length) (h : OrdOut B l1 dss first n W v ok en) (h' : ROut l dss first n W' v' ok' en') :
    ok = ok' ∧ en = en' ∧ ∃ (k : Nat) (ks : List Nat) (za : Option Addr) (zc : Nat) (za' : Option Addr) (zc' : Nat), v = .slice za k zc ∧ v' = .slice za' k zc' ∧ ks.length = k ∧ k ≤ 10 ∧ ZRow W za (zs ks) ∧ ZRow W' za' (zs ks) := by
  have hz0 : ∀ W, ZRow W none (zs []) := fun W => ⟨fun h => absurd rfl h⟩
  have hnil : ∀ {v v' : Value}, v = .slice none 0 0 → v' = .slice none 0 0 → ∃ (k : Nat) (ks : List Nat) (za : Option Addr) (zc : Nat) (za' : Option Addr) (zc' : Nat), v = .slice za k zc ∧ v' = .slice za' k zc' ∧ ks.length = k ∧ k ≤ 10 ∧ ZRow W za (zs ks) ∧ ZRow W' za' (zs ks) := fun h1 h2 => ⟨0, [], none, 0, none, 0, h1, h2, rfl, by omega, hz0 _, hz0 _⟩
  have hw := hs.wrg n
  have hlen := hs.len
  rcases h with ⟨a1, a2, a3, a4⟩ | ⟨a1, a2, a3, a4, a5⟩ | ⟨a1, a2, a3, a4, ks, za, zc, a5, a6, a7⟩ | ⟨a1, a2, a3, a4, a5, a6⟩
  · rcases h' with ⟨b1, b2, b3, b4⟩ | ⟨b1, _⟩ | ⟨b1, _⟩
    · exact ⟨by rw [a3, b3], by rw [a4, b4], hnil a2 b2⟩
    · omega
    · omega
  · rcases h' with ⟨b1, _⟩ | ⟨b1, b2, b3, b4, b5⟩ | ⟨b1, b2, _⟩
    · omega
    · exact ⟨by rw [a4, b4], by rw [a5, b5, hw], hnil a3 b3⟩
    · rw [hw] at a2; exact absurd b2 a2
  · change (spA l1 dss).Finds 0 first ks at a6
    rw [spA_sibs hs] at a6
    have hz : ZRow W za (zs ks) := by
      have e : ks.map iv = (zs ks).map (Value.int .i64) := by rw [List.map_map]; rfl
      rw [e] at a7
      obtain ⟨za9, zc9, e9, hz9⟩ := zrow_own a7 (by rw [List.length_map])
      cases e9; exact hz9
    have hk := comp_len (by omega) hd a6.comp
    rcases h' with ⟨b1, _⟩ | ⟨b1, b2, _⟩ | ⟨b1, b2, b3, b4⟩
    · omega
    · rw [hw] at a2; exact absurd a2 b2
    · rcases b4 with ⟨c1, t, za', zc', c2, c3, c4⟩ | ⟨c1, c2, c3⟩
      · rw [List.nil_append] at c2 c4
        have e : ks = t := a6.det (by simpa [mask] using c3)
        subst e
        exact ⟨by rw [a4, c1], by rw [a3, b3], ks.length, ks, za, zc, za', zc', a5, c2, rfl, hk, hz, c4⟩
      · exact absurd (by simpa [mask] using c3) a6.alive
  · change (spA l1 dss).Dead 0 first at a6
    rw [spA_sibs hs] at a6
    rcases h' with ⟨b1, _⟩ | ⟨b1, b2, _⟩ | ⟨b1, b2, b3, b4⟩
    · omega
    · rw [hw] at a2; exact absurd a2 b2
    · rcases b4 with ⟨c1, t, za', zc', c2, c3, c4⟩ | ⟨c1, c2, c3⟩
      · exact absurd a6 (by have := c3.alive; simpa [mask] using this)
      · exact ⟨by rw [a4, c1], by rw [a3, b3], hnil a5 c2⟩
set_option maxHeartbeats 16000000 in
/-- the law JudgeOrders -/
theorem orders_any (w : World) (fa oa : Option Addr) (n fc m oc : Nat) (first : List Nat) (l : List Opv) (dss : List (List Nat)) (hb : BRow w fa fc first) (hn : first.length = n) (h : OpsD w oa l dss) (hm : l.length = m) (hs : m ≤ 1048576) :
    Calls Try.prog 4 #[.slice fa n fc, .slice oa m oc] w fun e w' => e = .returned (.bool true) ∧ Below w.heap.size w w' := by
  have HD : Hid (BRow w fa fc first ∧ first.length = n ∧ OpsD w oa l dss ∧ l.length = m ∧ m ≤ 1048576) := ⟨hb, hn, h, hm, hs⟩
  have HO1 : Hid _ := ops_any oa m oc l dss w h hm hs
  clear hb hn h hm hs
  go_enter Try.func4, Try.ntmps4
  go_wp2_with fail
  refine Calls.mono HO1.out ?_
  rintro e W1 ⟨oa1, oc1, l1, rfl, hb1, hO1, hl1, hs1⟩
  have H1 : Hid (Below w.heap.size w W1 ∧ OpsD W1 oa1 l1 dss ∧ Sibs l l1 ∧ l1.length = m) := ⟨hb1, hO1, ⟨by rw [hl1, HD.out.2.2.2.1], hs1⟩, hl1⟩
  have HOr : Hid _ := order_any fa oa1 n fc m oc1 first l1 dss W1 (HD.out.1.later hb1) HD.out.2.1 hO1 hl1 (by have := HD.out.2.2.2.2; omega)
  clear hb1 hO1 hl1 hs1 HO1
  go_wp2_with fail
  refine Calls.mono HOr.out ?_
  rintro e W2 ⟨v, ok, en, rfl, hout, hb2⟩
  have HB2 : Hid (Below w.heap.size w W2 ∧ Below W1.heap.size W1 W2 ∧ OrdOut W1.heap.size l1 dss first n W2 v ok en) := ⟨H1.out.1.trans (hb2.mono H1.out.1.size), hb2, hout⟩
  have HRo : Hid _ := rOrder_any fa oa n fc m oc first l dss W2 (HD.out.1.later HB2.out.1) HD.out.2.1 (HD.out.2.2.1.later HB2.out.1) HD.out.2.2.2.1 (by have := HD.out.2.2.2.2; omega)
  clear hout hb2 HOr
  go_wp2_with fail
  refine Calls.mono HRo.out ?_
  rintro e W3 ⟨v', ok', en', rfl, hout, hb3⟩
  obtain ⟨rfl, rfl, k, ks, za, zc, za', zc', rfl, rfl, hkk, hk10, hz, hz'⟩ := order_pair H1.out.2.2.1 (by rw [HD.out.2.2.1.len]) HB2.out.2.2 hout
  have HB3 : Hid (Below w.heap.size w W3 ∧ OpsD W3 oa1 l1 dss) := ⟨HB2.out.1.trans (hb3.mono HB2.out.1.size), (H1.out.2.1.later HB2.out.2.1).later hb3⟩
  have HSi : Hid _ := sameInts_any za za' zc zc' k (zs ks) W3 (by rw [List.length_map]; exact hkk) (by omega) (hz.later hb3) hz'
  clear hout hb3 hz hz' hkk HRo
  have n9 : ((en : Int) == (en : Int)) = true := by simp
  cases ok
  all_goals
    go_wp2_with fail
    refine Calls.mono HSi.out ?_
    rintro e W4 ⟨rfl, q, rfl⟩
    have HB4 : Hid (Below w.heap.size w (W3.drewN q) ∧ OpsD (W3.drewN q) oa1 l1 dss) := ⟨HB3.out.1.trans ⟨rfl, rfl, rfl, Nat.le_refl _, fun _ _ => rfl⟩, HB3.out.2.later ⟨rfl, rfl, rfl, Nat.le_refl _, fun _ _ => rfl⟩⟩
    have HSo : Hid _ := sameOps_any oa1 oa m oc1 oc l1 l dss (W3.drewN q) H1.out.2.2.2 HD.out.2.2.2.1 (by have := HD.out.2.2.2.2; omega) HB4.out.2 (HD.out.2.2.1.later HB4.out.1) H1.out.2.2.1.symm.sib
    obtain ⟨W4, hW4⟩ : ∃ W4, W4 = W3.drewN q := ⟨_, rfl⟩
    rw [← hW4] at HSo HB4 ⊢
    clear hW4
    go_wp2_with fail
    refine Calls.mono HSo.out ?_
    rintro e W5 ⟨rfl, hb5⟩
    have HB5 : Hid (Below w.heap.size w W5) := HB4.out.1.trans (hb5.mono HB4.out.1.size)
    clear hb5
    go_wp2_with fail
    refine Calls.mono (heads_any W5) ?_
    rintro e W6 ⟨rfl, hb6⟩
    have HB6 : Hid (Below w.heap.size w W6) := HB5.out.trans (hb6.mono HB5.out.size)
    clear hb6
    go_wp2_with fail
    go_ret
    exact ⟨rfl, HB6.out⟩
end Go.Proofs.Ytjkoambfecmglaa

namespace Go.Proofs.Ytjkoambfecmglaa.judgeOrders
open Go.ChangeShapes Go.WideShapes Go.ChangeAt Go.RowKit Go.Lib
open Go.Deep
set_option linter.unusedVariables false
set_option linter.unusedSimpArgs false
set_option maxRecDepth 100000
theorem contract (H : Type) (enc : TypeId × Value → H) (W : World) (base : Nat) (args : Array Value) (ds gs : List (DataW H)) (before : List MemPlace)
    (hval : ∀ (j : Nat) t v, Try.f4.params[j]? = some t → args[j]? = some v → Value.okWide Try.prog W .any base t v)
    (hW : DataW.Whole enc Try.prog Try.f4.params.toList Rows.judgeOrdersSpec.vars false W args.toList ds gs before) (hk : Rows.uptoSmall H (ds ++ gs) = true) :
    Calls Try.prog 4 args W fun e W' => ∃ v, e = .returned v ∧ Rows.judgeOrdersSpec.post enc Try.prog Try.f4 false true false false W args v W' := by
  have hW' := hW
  obtain ⟨p, q, hA0, hV, rfl, hfz, hnd⟩ := hW
  have hA : DataW.TrodAll enc Try.prog W 0 (fun _ => true) true Try.f4.params.toList args.toList ds p := hA0
  rw [Try.params4] at hA hval
  obtain ⟨v0, vs0, d0, ds0, p0, q0, hargs, rfl, rfl, h0, r0⟩ := trodAll_cons hA
  obtain ⟨v1, vs1, d1, ds1, p1, q1, rfl, rfl, rfl, h1, r1⟩ := trodAll_cons r0
  obtain ⟨rfl, rfl, rfl⟩ := trodAll_nil r1
  obtain rfl : args = #[v0, v1] := by cases args; simp_all
  obtain ⟨rfl, rfl⟩ := trodVars_none hV
  have k0 := h0
  have k1 := h1
  have lt0 : ∀ x ∈ p0, x.block < W.heap.size := by obtain ⟨m, hm⟩ := k0; exact DataW.trod_lt m _ _ _ hm
  have lt1 : ∀ x ∈ p1, x.block < W.heap.size := by obtain ⟨m, hm⟩ := k1; exact DataW.trod_lt m _ _ _ hm
  obtain ⟨ao, len0, cap0, rfl⟩ := okWide_slice (show Try.prog.underlying 22 = some (.slice 5) by kernel_rfl) (hval 0 22 v0 rfl rfl)
  obtain ⟨so, len1, cap1, rfl⟩ := okWide_slice Try.under23 (hval 1 23 v1 rfl rfl)
  have hbd := bulk_bound hk
  simp only [Rows.uptoBulkAll, List.append_nil] at hbd
  have hwalk : Calls Try.prog 4 #[.slice ao len0 cap0, .slice so len1 cap1] W fun e w' => e = .returned (.bool true) ∧ Below W.heap.size W w' := by
    obtain ⟨f0, hf0⟩ := h0
    obtain ⟨f1, hf1⟩ := h1
    obtain ⟨ao', cap', first, e0, hbr⟩ := open_b17 hf0 (by omega)
    obtain ⟨so', c1, l, dss, e1, hO, hml⟩ := open_ops17 hf1 (by omega)
    simp [Value.cells] at e0 e1
    obtain ⟨rfl, rfl, rfl⟩ := e0
    obtain ⟨rfl, rfl, rfl⟩ := e1
    exact orders_any W ao so _ cap0 _ cap1 first l dss hbr rfl hO rfl hml
  clear hA0
  refine hwalk.mono fun e W' ⟨he, bel⟩ => ?_
  subst he
  exact ⟨_, rfl, _, _, _, [], _, [], hW', trodAll_mk1 (shut_bool (show Try.prog.underlying 4 = some .bool by kernel_rfl) _), trodAll_cons_mk (Below.trod laidOut (by kernel_rfl) (of_decide_eq_true (by kernel_rfl)) k0 bel lt0) (trodAll_cons_mk (Below.trod laidOut (by kernel_rfl) (of_decide_eq_true (by kernel_rfl)) k1 bel lt1) trodAll_mk0), rfl, bel.frame _, fun h => by cases h⟩

set_option maxRecDepth 100000 in
theorem lifted (os : Os) (started : os.Started) (H : Type) (enc : TypeId × Value → H) (F : Stop.Interp) :
    ReturnsInHanded {} Try.checked os 4 .any ((Rows.OpenSpec.upto Rows.judgeOrdersSpec).pre6 enc Try.prog Try.f4 Rows.judgeOrdersUptoRow.domain false) (((Rows.OpenSpec.upto Rows.judgeOrdersSpec).at F).post enc Try.prog Try.f4 false true false false) := by
  refine returnsInHanded_of_cond (C := Try.checked) (s := Rows.OpenSpec.upto Rows.judgeOrdersSpec) (k := Rows.uptoSmall) rfl own started (by kernel_rfl) Try.func4
    (OpenSpec.witness (enc := enc) (C := Try.checked) (s := Rows.OpenSpec.upto Rows.judgeOrdersSpec) (k := Rows.uptoSmall) rfl false ⟨#[], #[.slice none 0 0, .slice none 0 0], []⟩ 8 (by kernel_rfl) (by kernel_rfl) (by kernel_rfl)
      (x := ([.nil, .nil], [], [])) (by kernel_rfl) rfl (by kernel_rfl)) ?_
  intro W base args ds gs before hval hW _ hk _
  exact contract H enc W base args ds gs before hval hW hk
end Go.Proofs.Ytjkoambfecmglaa.judgeOrders
namespace Go.Proofs.Ytjkoambfecmglaa
theorem judgeOrders_proved : Rows.JudgeOrdersUptoSaid :=
  OpenClaim.holds_of_cond 4 Try.f4 rfl rfl rfl rfl rfl rfl rfl ⟨rfl, rfl, rfl, rfl, rfl⟩ rfl rfl rfl rfl rfl (by kernel_rfl) Try.func4 (by kernel_rfl)
    (of_decide_eq_true (by kernel_rfl)) (by unfold Func.isWrapper; first | (rw [if_pos (by decide +kernel)]; kernel_rfl) | (rw [if_neg (by decide +kernel)]; exact ⟨rfl, rfl⟩))
    (fun os started H enc _ F => judgeOrders.lifted os started H enc F)
#print axioms judgeOrders_proved
end Go.Proofs.Ytjkoambfecmglaa
