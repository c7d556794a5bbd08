import Derived.Test.YtjkoambfecmglaaJL
import Derived.Test.YtjkoambfecmglaaJM
namespace Go.Proofs.Ytjkoambfecmglaa
open Go.RowKit
set_option linter.unusedVariables false
set_option linter.unusedSimpArgs false
set_option maxRecDepth 100000
/-- an operation that was asked, in its stage: 1 asked, 2 done, 3 answered -/
structure Askd (n t s : Nat) (p : Opv) (ds : List Nat) : Prop where
  k1 : 1 ≤ p.k
  k4 : p.k ≤ 4
  fr0 : 0 ≤ p.fr
  frt : p.fr < (t : Int)
  off0 : 0 ≤ p.off
  len0 : 0 ≤ p.len
  inn : p.off + p.len ≤ (n : Int)
  fl : p.k = 4 → p.off = 0 ∧ p.len = 0
  dl : ds.length = p.n
  w : p.k = 2 → (p.n : Int) = p.len
  r1 : p.k = 1 → s = 1 → p.n = 0
  r2 : p.k = 1 → 2 ≤ s → (p.n : Int) = p.len
  o : p.k = 3 ∨ p.k = 4 → p.n = 0
  un : s < 3 → p.to_ = -1 ∧ p.sy = false
  an : s = 3 → p.fr ≤ p.to_ ∧ p.to_ < (t : Int)
  sy : p.sy = true → p.k ≠ 1
theorem Askd.mono {n t t' s : Nat} {p : Opv} {ds : List Nat} (h : Askd n t s p ds) (ht : t ≤ t') : Askd n t' s p ds :=
  ⟨h.k1, h.k4, h.fr0, by have := h.frt; omega, h.off0, h.len0, h.inn, h.fl, h.dl, h.w, h.r1, h.r2, h.o, h.un, fun e => ⟨(h.an e).1, by have := (h.an e).2; omega⟩, h.sy⟩
/-- what operation k does -/
def effA (L : List Opv) (dss : List (List Nat)) (k : Nat) (bs : List Nat) : List Nat := match L[k]?, dss[k]? with
  | some p, some ds => p.eff bs ds
  | _, _ => bs
def plT (L : List Opv) (dss : List (List Nat)) (first : List Nat) (ord : List Nat) : List Nat := ord.foldl (fun bs k => effA L dss k bs) first
theorem plT_snoc (L : List Opv) (dss : List (List Nat)) (first : List Nat) (ord : List Nat) (k : Nat) : plT L dss first (ord ++ [k]) = effA L dss k (plT L dss first ord) := by
  unfold plT; rw [List.foldl_append]; rfl
theorem effA_of {L : List Opv} {dss : List (List Nat)} {k : Nat} {p : Opv} {ds bs : List Nat} (hp : L[k]? = some p) (hd : dss[k]? = some ds) : effA L dss k bs = p.eff bs ds := by
  unfold effA; rw [hp, hd]
theorem plT_congr {L L' : List Opv} {dss dss' : List (List Nat)} : ∀ {ord : List Nat} {first : List Nat}, (∀ j ∈ ord, ∀ bs, effA L' dss' j bs = effA L dss j bs) → plT L' dss' first ord = plT L dss first ord
  | [], _, _ => rfl
  | k :: ord, first, h => by
    show plT L' dss' (effA L' dss' k first) ord = plT L dss (effA L dss k first) ord
    rw [h k (by simp), plT_congr (fun j hj => h j (List.mem_cons_of_mem _ hj))]
theorem effA_far {L : List Opv} {dss : List (List Nat)} {k j : Nat} (p : Opv) (ds : List Nat) (h : j ≠ k) (bs : List Nat) : effA (L.set k p) (dss.set k ds) j bs = effA L dss j bs := by
  unfold effA
  rw [List.getElem?_set_ne (fun e => h e.symm), List.getElem?_set_ne (fun e => h e.symm)]
/-- a real history while it is made: t moments are over -/
structure RS (n t : Nat) (first : List Nat) (L : List Opv) (dss : List (List Nat)) (st ord : List Nat) (b : List Nat) : Prop where
  ll : dss.length = L.length
  sl : st.length = L.length
  s3 : ∀ (k s : Nat), st[k]? = some s → s ≤ 3
  ask : ∀ (k s : Nat) (p : Opv) (ds : List Nat), st[k]? = some s → 1 ≤ s → L[k]? = some p → dss[k]? = some ds → Askd n t s p ds
  ordm : ∀ k : Nat, k ∈ ord ↔ ∃ s, st[k]? = some s ∧ 2 ≤ s
  nd : ord.Nodup
  bef : ∀ (i k : Nat), ord[i]? = some k → ∀ (a : Nat) (pa pk : Opv), st[a]? = some 3 → L[a]? = some pa → L[k]? = some pk → pa.to_ < pk.fr → a ∈ ord.take i
  play : b = plT L dss first ord
  rd : ∀ (i k : Nat) (p : Opv) (ds : List Nat), ord[i]? = some k → L[k]? = some p → dss[k]? = some ds → p.k = 1 → ds = ((plT L dss first (ord.take i)).drop p.off.toNat).take p.len.toNat
theorem RS.next {n t : Nat} {first : List Nat} {L : List Opv} {dss : List (List Nat)} {st ord : List Nat} {b : List Nat} (h : RS n t first L dss st ord b) : RS n (t + 1) first L dss st ord b :=
  ⟨h.ll, h.sl, h.s3, fun k s p ds h1 h2 h3 h4 => (h.ask k s p ds h1 h2 h3 h4).mono (Nat.le_succ t), h.ordm, h.nd, h.bef, h.play, h.rd⟩
theorem set_cases {α : Type} {l : List α} {k j : Nat} {x y : α} (h : (l.set k x)[j]? = some y) : (j = k ∧ y = x) ∨ (j ≠ k ∧ l[j]? = some y) := by
  by_cases e : k = j
  · subst e
    have hk : k < l.length := by have := (List.getElem?_eq_some_iff.1 h).1; rwa [List.length_set] at this
    rw [List.getElem?_set_self hk] at h
    exact .inl ⟨rfl, (Option.some.inj h).symm⟩
  · rw [List.getElem?_set_ne e] at h
    exact .inr ⟨fun e2 => e e2.symm, h⟩
theorem RS.notin {n t : Nat} {first : List Nat} {L : List Opv} {dss : List (List Nat)} {st ord : List Nat} {b : List Nat} (h : RS n t first L dss st ord b) {k s : Nat} (hk : st[k]? = some s) (hs : s < 2) : ¬ k ∈ ord := fun hm => by
  obtain ⟨s2, h1, h2⟩ := (h.ordm k).1 hm
  rw [hk] at h1; cases h1; omega
/-- one is asked -/
theorem RS.asked {n t : Nat} {first : List Nat} {L : List Opv} {dss : List (List Nat)} {st ord : List Nat} {b : List Nat} (h : RS n t first L dss st ord b) {k : Nat} (hk : st[k]? = some 0) {p : Opv} {ds : List Nat} (ha : Askd n (t + 1) 1 p ds) : RS n (t + 1) first (L.set k p) (dss.set k ds) (st.set k 1) ord b := by
  have hkl : k < st.length := (List.getElem?_eq_some_iff.1 hk).1
  have hno := h.notin hk (by omega)
  have hpl : ∀ o : List Nat, (∀ j ∈ o, j ∈ ord) → plT (L.set k p) (dss.set k ds) first o = plT L dss first o := fun o ho => plT_congr fun j hj bs => effA_far p ds (fun e => hno (by rw [← e]; exact ho j hj)) bs
  refine ⟨by rw [List.length_set, List.length_set]; exact h.ll, by rw [List.length_set, List.length_set]; exact h.sl, fun j s hj => ?_, fun j s q es hj hs hq he => ?_, fun j => ?_, h.nd, fun i j hj a pa pj ha3 hpa hpj hlt => ?_, ?_, fun i j q es hj hq he hq1 => ?_⟩
  · rcases set_cases hj with ⟨_, rfl⟩ | ⟨_, h1⟩
    · omega
    · exact h.s3 j s h1
  · rcases set_cases hj with ⟨rfl, rfl⟩ | ⟨e, h1⟩
    · rcases set_cases hq with ⟨_, rfl⟩ | ⟨e, _⟩
      · rcases set_cases he with ⟨_, rfl⟩ | ⟨e, _⟩
        · exact ha
        · exact absurd rfl e
      · exact absurd rfl e
    · rw [List.getElem?_set_ne (fun e2 => e e2.symm)] at hq he
      exact (h.ask j s q es h1 hs hq he).mono (Nat.le_succ t)
  · rw [h.ordm j]
    by_cases e : j = k
    · subst e
      rw [List.getElem?_set_self hkl, hk]
      constructor
      · rintro ⟨s, h1, h2⟩; cases h1; omega
      · rintro ⟨s, h1, h2⟩; cases h1; omega
    · rw [List.getElem?_set_ne (fun e2 => e e2.symm)]
  · have hjo : j ∈ ord := List.mem_of_getElem? hj
    have hjk : j ≠ k := fun e => hno (by rw [← e]; exact hjo)
    have hak : a ≠ k := fun e => by
      rw [e, List.getElem?_set_self hkl] at ha3; cases ha3
    rw [List.getElem?_set_ne (fun e => hak e.symm)] at ha3 hpa
    rw [List.getElem?_set_ne (fun e => hjk e.symm)] at hpj
    exact h.bef i j hj a pa pj ha3 hpa hpj hlt
  · rw [hpl ord (fun j hj => hj)]; exact h.play
  · have hjo : j ∈ ord := List.mem_of_getElem? hj
    have hjk : j ≠ k := fun e => hno (by rw [← e]; exact hjo)
    rw [List.getElem?_set_ne (fun e => hjk e.symm)] at hq he
    rw [hpl _ (fun x hx => List.mem_of_mem_take hx)]
    exact h.rd i j q es hj hq he hq1
/-- one is done -/
theorem RS.done {n t : Nat} {first : List Nat} {L : List Opv} {dss : List (List Nat)} {st ord : List Nat} {b : List Nat} (h : RS n t first L dss st ord b) {k : Nat} (hk : st[k]? = some 1) {p : Opv} {ds : List Nat} (ha : Askd n (t + 1) 2 p ds) (hr : p.k = 1 → ds = (b.drop p.off.toNat).take p.len.toNat) : RS n (t + 1) first (L.set k p) (dss.set k ds) (st.set k 2) (ord ++ [k]) (p.eff b ds) := by
  have hkl : k < st.length := (List.getElem?_eq_some_iff.1 hk).1
  have hkL : k < L.length := by rw [← h.sl]; exact hkl
  have hno := h.notin hk (by omega)
  have hpl : ∀ o : List Nat, (∀ j ∈ o, j ∈ ord) → plT (L.set k p) (dss.set k ds) first o = plT L dss first o := fun o ho => plT_congr fun j hj bs => effA_far p ds (fun e => hno (by rw [← e]; exact ho j hj)) bs
  have hsp : (L.set k p)[k]? = some p := List.getElem?_set_self hkL
  have hsd : (dss.set k ds)[k]? = some ds := List.getElem?_set_self (by rw [h.ll]; exact hkL)
  have hold : ∀ {i j : Nat}, (ord ++ [k])[i]? = some j → (i < ord.length ∧ ord[i]? = some j ∧ j ≠ k ∧ (ord ++ [k]).take i = ord.take i) ∨ (i = ord.length ∧ j = k ∧ (ord ++ [k]).take i = ord) := fun {i j} hj => by
    rcases Nat.lt_or_ge i ord.length with h1 | h1
    · rw [List.getElem?_append_left h1] at hj
      exact .inl ⟨h1, hj, fun e => hno (by rw [← e]; exact List.mem_of_getElem? hj), List.take_append_of_le_length (by omega)⟩
    · rw [List.getElem?_append_right h1] at hj
      have h2 := (List.getElem?_eq_some_iff.1 hj).1
      simp at h2
      have e : i = ord.length := by omega
      subst e
      simp at hj
      exact .inr ⟨rfl, hj.symm, by rw [List.take_append_of_le_length (Nat.le_refl _), List.take_length]⟩
  refine ⟨by rw [List.length_set, List.length_set]; exact h.ll, by rw [List.length_set, List.length_set]; exact h.sl, fun j s hj => ?_, fun j s q es hj hs hq he => ?_, fun j => ?_, ?_, fun i j hj a pa pj ha3 hpa hpj hlt => ?_, ?_, fun i j q es hj hq he hq1 => ?_⟩
  · rcases set_cases hj with ⟨_, rfl⟩ | ⟨_, h1⟩
    · omega
    · exact h.s3 j s h1
  · rcases set_cases hj with ⟨rfl, rfl⟩ | ⟨e, h1⟩
    · rw [hsp] at hq; rw [hsd] at he
      cases hq; cases he; exact ha
    · rw [List.getElem?_set_ne (fun e2 => e e2.symm)] at hq he
      exact (h.ask j s q es h1 hs hq he).mono (Nat.le_succ t)
  · rw [List.mem_append, List.mem_singleton, h.ordm j]
    by_cases e : j = k
    · subst e
      rw [List.getElem?_set_self hkl]
      exact ⟨fun _ => ⟨2, rfl, Nat.le_refl _⟩, fun _ => .inr rfl⟩
    · rw [List.getElem?_set_ne (fun e2 => e e2.symm)]
      exact ⟨fun h1 => h1.elim id (fun h2 => absurd h2 e), .inl⟩
  · exact List.nodup_append.2 ⟨h.nd, by simp, fun a ha2 c hc e => by simp at hc; subst hc; subst e; exact hno ha2⟩
  · have hak : a ≠ k := fun e => by
      rw [e, List.getElem?_set_self hkl] at ha3; cases ha3
    rw [List.getElem?_set_ne (fun e => hak e.symm)] at ha3 hpa
    rcases hold hj with ⟨h1, h2, h3, h4⟩ | ⟨h1, h2, h4⟩
    · rw [List.getElem?_set_ne (fun e => h3 e.symm)] at hpj
      rw [h4]; exact h.bef i j h2 a pa pj ha3 hpa hpj hlt
    · rw [h4]; exact (h.ordm a).2 ⟨3, ha3, by omega⟩
  · rw [plT_snoc, hpl ord (fun j hj => hj), ← h.play, effA_of hsp hsd]
  · rcases hold hj with ⟨h1, h2, h3, h4⟩ | ⟨h1, h2, h4⟩
    · rw [List.getElem?_set_ne (fun e => h3 e.symm)] at hq he
      rw [h4, hpl _ (fun x hx => List.mem_of_mem_take hx)]
      exact h.rd i j q es h2 hq he hq1
    · subst h2
      rw [hsp] at hq; rw [hsd] at he
      cases hq; cases he
      rw [h4, hpl ord (fun j hj => hj), ← h.play]
      exact hr hq1
/-- one is answered -/
theorem RS.told {n t : Nat} {first : List Nat} {L : List Opv} {dss : List (List Nat)} {st ord : List Nat} {b : List Nat} (h : RS n t first L dss st ord b) {k : Nat} (hk : st[k]? = some 2) {p p' : Opv} {ds : List Nat} (hp : L[k]? = some p) (hd : dss[k]? = some ds) (ha : Askd n (t + 1) 3 p' ds) (e1 : p'.k = p.k) (e2 : p'.fr = p.fr) (e3 : p'.off = p.off) (e4 : p'.len = p.len) (e5 : p'.to_ = (t : Int)) : RS n (t + 1) first (L.set k p') dss (st.set k 3) ord b := by
  have hkl : k < st.length := (List.getElem?_eq_some_iff.1 hk).1
  have hkL : k < L.length := by rw [← h.sl]; exact hkl
  have hsp : (L.set k p')[k]? = some p' := List.getElem?_set_self hkL
  have heff : ∀ j bs, effA (L.set k p') dss j bs = effA L dss j bs := fun j bs => by
    by_cases e : j = k
    · subst e
      rw [effA_of hsp hd, effA_of hp hd]
      unfold Opv.eff
      rw [e1, e3, e4]
    · unfold effA
      rw [List.getElem?_set_ne (fun e2 => e e2.symm)]
  have hpl : ∀ o : List Nat, plT (L.set k p') dss first o = plT L dss first o := fun o => plT_congr fun j _ bs => heff j bs
  have hget : ∀ {j : Nat} {q : Opv}, (L.set k p')[j]? = some q → ∃ q0, L[j]? = some q0 ∧ q.k = q0.k ∧ q.fr = q0.fr ∧ q.off = q0.off ∧ q.len = q0.len := fun {j q} hq => by
    rcases set_cases hq with ⟨rfl, rfl⟩ | ⟨_, h1⟩
    · exact ⟨p, hp, e1, e2, e3, e4⟩
    · exact ⟨q, h1, rfl, rfl, rfl, rfl⟩
  refine ⟨by rw [List.length_set]; exact h.ll, by rw [List.length_set, List.length_set]; exact h.sl, fun j s hj => ?_, fun j s q es hj hs hq he => ?_, fun j => ?_, h.nd, fun i j hj a pa pj ha3 hpa hpj hlt => ?_, ?_, fun i j q es hj hq he hq1 => ?_⟩
  · rcases set_cases hj with ⟨_, rfl⟩ | ⟨_, h1⟩
    · omega
    · exact h.s3 j s h1
  · rcases set_cases hj with ⟨rfl, rfl⟩ | ⟨e, h1⟩
    · rw [hsp] at hq; rw [hd] at he
      cases hq; cases he; exact ha
    · rw [List.getElem?_set_ne (fun e2 => e e2.symm)] at hq
      exact (h.ask j s q es h1 hs hq he).mono (Nat.le_succ t)
  · rw [h.ordm j]
    by_cases e : j = k
    · subst e
      rw [List.getElem?_set_self hkl, hk]
      exact ⟨fun _ => ⟨3, rfl, by omega⟩, fun _ => ⟨2, rfl, Nat.le_refl _⟩⟩
    · rw [List.getElem?_set_ne (fun e2 => e e2.symm)]
  · obtain ⟨q0, hq0, _, hfr, _⟩ := hget hpj
    rw [hfr] at hlt
    by_cases hak : a = k
    · subst hak
      rw [hsp] at hpa; cases hpa
      rw [e5] at hlt
      obtain ⟨s, h1, h2⟩ := (h.ordm j).1 (List.mem_of_getElem? hj)
      have hjl : j < L.length := (List.getElem?_eq_some_iff.1 hq0).1
      have h3 := (h.ask j s q0 (dss[j]'(by rw [h.ll]; exact hjl)) h1 (by omega) hq0 (List.getElem?_eq_getElem (by rw [h.ll]; exact hjl))).frt
      omega
    · rw [List.getElem?_set_ne (fun e => hak e.symm)] at ha3 hpa
      exact h.bef i j hj a pa q0 ha3 hpa hq0 hlt
  · rw [hpl]; exact h.play
  · obtain ⟨q0, hq0, hk0, _, ho0, hl0⟩ := hget hq
    rw [hpl, ho0, hl0]
    exact h.rd i j q0 es hj hq0 he (by rw [← hk0]; exact hq1)
end Go.Proofs.Ytjkoambfecmglaa

namespace Go.Proofs.Ytjkoambfecmglaa
open Go.RowKit
set_option linter.unusedVariables false
set_option linter.unusedSimpArgs false
set_option maxRecDepth 100000
def askB (st : List Nat) (k : Nat) : Bool := decide (0 < st.getD k 0)
/-- those of the first k that were asked -/
def qF (st : List Nat) (k : Nat) : List Nat := (List.range k).filter (askB st)
theorem qF_yes {st : List Nat} {k : Nat} (h : askB st k = true) : qF st (k + 1) = qF st k ++ [k] := by
  unfold qF; rw [List.range_succ, List.filter_append]; simp [h]
theorem qF_no {st : List Nat} {k : Nat} (h : askB st k = false) : qF st (k + 1) = qF st k := by
  unfold qF; rw [List.range_succ, List.filter_append]; simp [h]
theorem qF_len (st : List Nat) (k : Nat) : (qF st k).length ≤ k := by
  unfold qF
  have := List.length_filter_le (askB st) (List.range k)
  rw [List.length_range] at this; exact this
theorem qF_at {st : List Nat} {k : Nat} (ha : askB st k = true) : ∀ {m : Nat}, k < m → (qF st m)[(qF st k).length]? = some k
  | 0, h => absurd h (Nat.not_lt_zero _)
  | m + 1, h => by
    rcases Nat.lt_or_ge k m with h1 | h1
    · have ih := qF_at ha h1
      have hl := (List.getElem?_eq_some_iff.1 ih).1
      cases hb : askB st m with
      | true => rw [qF_yes hb, List.getElem?_append_left hl]; exact ih
      | false => rw [qF_no hb]; exact ih
    · have e : k = m := by omega
      subst e
      rw [qF_yes ha, List.getElem?_append_right (Nat.le_refl _), Nat.sub_self]; rfl
theorem qF_of {st : List Nat} {i k : Nat} : ∀ {m : Nat}, (qF st m)[i]? = some k → k < m ∧ askB st k = true ∧ (qF st k).length = i
  | 0, h => by simp [qF] at h
  | m + 1, h => by
    cases hb : askB st m with
    | false =>
      rw [qF_no hb] at h
      obtain ⟨h1, h2, h3⟩ := qF_of h
      exact ⟨by omega, h2, h3⟩
    | true =>
      rw [qF_yes hb] at h
      rcases Nat.lt_or_ge i (qF st m).length with h1 | h1
      · rw [List.getElem?_append_left h1] at h
        obtain ⟨h1, h2, h3⟩ := qF_of h
        exact ⟨by omega, h2, h3⟩
      · rw [List.getElem?_append_right h1] at h
        have h2 := (List.getElem?_eq_some_iff.1 h).1
        simp at h2
        have e : i = (qF st m).length := by omega
        subst e
        simp at h
        subst h
        exact ⟨by omega, hb, rfl⟩
/-- how an operation is seen that is in stage s -/
def seenP (s : Nat) (p : Opv) : Opv := if s < 3 ∧ p.k = 1 then ⟨p.k, p.fr, p.to_, p.off, p.len, none, 0, 0, p.sy⟩ else p
def seenD (s : Nat) (p : Opv) (ds : List Nat) : List Nat := if s < 3 ∧ p.k = 1 then [] else ds
def seenF (L : List Opv) (st : List Nat) (k : Nat) : Opv := match L[k]? with
  | some p => seenP (st.getD k 0) p
  | none => ⟨0, 0, 0, 0, 0, none, 0, 0, false⟩
def seenG (L : List Opv) (dss : List (List Nat)) (st : List Nat) (k : Nat) : List Nat := match L[k]?, dss[k]? with
  | some p, some ds => seenD (st.getD k 0) p ds
  | _, _ => []
theorem seenF_of {L : List Opv} {st : List Nat} {k s : Nat} {p : Opv} (hp : L[k]? = some p) (hs : st[k]? = some s) : seenF L st k = seenP s p := by
  unfold seenF; rw [hp]; show seenP (st.getD k 0) p = _; rw [List.getD_eq_getElem?_getD, hs]; rfl
theorem seenG_of {L : List Opv} {dss : List (List Nat)} {st : List Nat} {k s : Nat} {p : Opv} {ds : List Nat} (hp : L[k]? = some p) (hd : dss[k]? = some ds) (hs : st[k]? = some s) : seenG L dss st k = seenD s p ds := by
  unfold seenG; rw [hp, hd]; show seenD (st.getD k 0) p ds = _; rw [List.getD_eq_getElem?_getD, hs]; rfl
abbrev seenL (L : List Opv) (st : List Nat) (m : Nat) : List Opv := (qF st m).map (seenF L st)
abbrev seenE (L : List Opv) (dss : List (List Nat)) (st : List Nat) (m : Nat) : List (List Nat) := (qF st m).map (seenG L dss st)
theorem seenP_eff {s : Nat} {p : Opv} {bs ds : List Nat} : (seenP s p).eff bs (seenD s p ds) = p.eff bs ds := by
  unfold seenP seenD
  by_cases h : s < 3 ∧ p.k = 1
  · rw [if_pos h, if_pos h]
    unfold Opv.eff
    simp [h.2]
  · rw [if_neg h, if_neg h]
theorem seenP_to (s : Nat) (p : Opv) : (seenP s p).to_ = p.to_ := by unfold seenP; split <;> rfl
theorem seenP_fr (s : Nat) (p : Opv) : (seenP s p).fr = p.fr := by unfold seenP; split <;> rfl
theorem seenP_len {s : Nat} {p : Opv} {ds : List Nat} (h : ds.length = p.n) : (seenD s p ds).length = (seenP s p).n := by
  unfold seenP seenD
  split
  · rfl
  · exact h
theorem seenP_may {n t s : Nat} {p : Opv} {ds : List Nat} (h : Askd n t s p ds) (hs : 1 ≤ s) (hs3 : s ≤ 3) : (seenP s p).may n = true := by
  obtain ⟨k1, k4, fr0, frt, off0, len0, inn, fl, dl, w, r1, r2, o, un, an, sy⟩ := h
  have hto : p.to_ = -1 ∨ p.fr ≤ p.to_ := by
    rcases Nat.lt_or_ge s 3 with h | h
    · exact .inl (un h).1
    · exact .inr (an (by omega)).1
  have h9 : ¬ (p.sy = true ∧ (p.to_ = -1 ∨ p.k = 1)) := fun hh => by
    rcases hh.2 with h2 | h2
    · rcases Nat.lt_or_ge s 3 with h | h
      · have := (un h).2; rw [this] at hh; cases hh.1
      · have := (an (by omega)).1; omega
    · exact sy hh.1 h2
  unfold seenP
  by_cases hc : s < 3 ∧ p.k = 1
  · rw [if_pos hc]
    have ht := (un hc.1).1
    unfold Opv.may
    simp only
    rw [if_neg (by omega), if_neg (by omega), if_neg (by omega), if_neg (by omega), if_neg (by omega), if_neg (by omega), if_neg (by omega), if_neg (by omega), if_neg (by omega), if_neg h9, if_neg (by omega)]
    rfl
  · rw [if_neg hc]
    unfold Opv.may
    rw [if_neg (by omega), if_neg (by omega), if_neg (by omega), if_neg (by omega), if_neg (by omega), if_neg (by omega), if_neg (by omega), if_neg (by omega), if_neg (fun hh => by have := fl hh.1; omega), if_neg h9]
    by_cases h2 : p.k = 2 ∨ (p.k = 1 ∧ p.to_ ≠ -1)
    · rw [if_pos h2]
      rw [beq_iff_eq]
      rcases h2 with h3 | h3
      · exact w h3
      · exact r2 h3.1 (by
          rcases Nat.lt_or_ge s 2 with h4 | h4
          · exact absurd (un (by omega)).1 h3.2
          · exact h4)
    · rw [if_neg h2, beq_iff_eq]
      have h5 : p.k ≠ 2 := fun e => h2 (.inl e)
      have h6 : p.k ≠ 1 := fun e => by
        rcases Nat.lt_or_ge s 3 with h | h
        · exact hc ⟨h, e⟩
        · exact h2 (.inr ⟨e, by have := (an (by omega)).1; omega⟩)
      have h7 := o (by omega)
      omega
theorem RS.stage {n t : Nat} {first : List Nat} {L : List Opv} {dss : List (List Nat)} {st ord : List Nat} {b : List Nat} (h : RS n t first L dss st ord b) {a : Nat} (ha : a < L.length) : ∃ s p ds, st[a]? = some s ∧ L[a]? = some p ∧ dss[a]? = some ds :=
  ⟨_, _, _, List.getElem?_eq_getElem (by rw [h.sl]; exact ha), List.getElem?_eq_getElem ha, List.getElem?_eq_getElem (by rw [h.ll]; exact ha)⟩
theorem askB_of {st : List Nat} {a s : Nat} (h : st[a]? = some s) : askB st a = decide (0 < s) := by
  unfold askB; rw [List.getD_eq_getElem?_getD, h]; rfl
/-- what is seen, one by one -/
theorem RS.seen {n t : Nat} {first : List Nat} {L : List Opv} {dss : List (List Nat)} {st ord : List Nat} {b : List Nat} (h : RS n t first L dss st ord b) {j : Nat} {o : Opv} (hj : (seenL L st L.length)[j]? = some o) : ∃ a s p ds, st[a]? = some s ∧ L[a]? = some p ∧ dss[a]? = some ds ∧ 1 ≤ s ∧ o = seenP s p ∧ (qF st a).length = j ∧ (seenE L dss st L.length)[j]? = some (seenD s p ds) ∧ Askd n t s p ds := by
  rw [List.getElem?_map] at hj
  cases hq : (qF st L.length)[j]? with
  | none => rw [hq] at hj; cases hj
  | some a =>
    rw [hq] at hj
    obtain ⟨h1, h2, h3⟩ := qF_of hq
    obtain ⟨s, p, ds, hs, hp, hd⟩ := h.stage h1
    rw [askB_of hs] at h2
    have h4 := of_decide_eq_true h2
    have h5 : seenF L st a = o := Option.some.inj hj
    rw [seenF_of hp hs] at h5
    exact ⟨a, s, p, ds, hs, hp, hd, h4, h5.symm, h3, by rw [List.getElem?_map, hq]; show some (seenG L dss st a) = _; rw [seenG_of hp hd hs], h.ask a s p ds hs h4 hp hd⟩
theorem RS.wrg {n t : Nat} {first : List Nat} {L : List Opv} {dss : List (List Nat)} {st ord : List Nat} {b : List Nat} (h : RS n t first L dss st ord b) (hn : n ≤ 4096) : wrg n (seenL L st L.length) = 0 := by
  unfold Go.Proofs.Ytjkoambfecmglaa.wrg
  rw [if_neg (by omega), if_pos]
  rw [List.all_eq_true]
  intro o ho
  obtain ⟨j, hj⟩ := List.mem_iff_getElem?.1 ho
  obtain ⟨a, s, p, ds, h1, h2, h3, h4, h5, _, _, h8⟩ := h.seen hj
  rw [h5]
  exact seenP_may h8 h4 (h.s3 a s h1)
abbrev numK (st : List Nat) (k : Nat) : Nat := (qF st k).length
/-- the moments' order is one that is followed -/
theorem RS.fol {n t : Nat} {first : List Nat} {L : List Opv} {dss : List (List Nat)} {st ord : List Nat} {b : List Nat} (h : RS n t first L dss st ord b) : ∀ i, i ≤ ord.length → FolR (seenL L st L.length) (seenE L dss st L.length) (zs (ord.map (numK st))) first i (plT L dss first (ord.take i))
  | 0, _ => by
    rw [List.take_zero]
    exact FolR.nil
  | i + 1, hi => by
    have ih := RS.fol h i (by omega)
    obtain ⟨k, hk⟩ : ∃ k, ord[i]? = some k := ⟨_, List.getElem?_eq_getElem (by omega)⟩
    have hko : k ∈ ord := List.mem_of_getElem? hk
    obtain ⟨s, hs, hs2⟩ := (h.ordm k).1 hko
    have hkL : k < L.length := by rw [← h.sl]; exact (List.getElem?_eq_some_iff.1 hs).1
    obtain ⟨s', p, ds, hs', hp, hd⟩ := h.stage hkL
    rw [hs] at hs'; cases hs'
    have hak : askB st k = true := by rw [askB_of hs]; exact decide_eq_true (by omega)
    have hq := qF_at hak hkL
    have htk : (zs (ord.map (numK st))).take i = zs ((ord.take i).map (numK st)) := by
      show List.take i (List.map _ (List.map _ ord)) = _
      rw [← List.map_take, ← List.map_take]
    have hin : ∀ a, askB st a = true → a < L.length → ((numK st a : Nat) : Int) ∈ zs ((ord.take i).map (numK st)) → a ∈ ord.take i := fun a ha haL hm => by
      rw [zs_mem, List.mem_map] at hm
      obtain ⟨c, hc, e⟩ := hm
      have hco : c ∈ ord := List.mem_of_mem_take hc
      obtain ⟨sc, hsc, hsc2⟩ := (h.ordm c).1 hco
      have hcL : c < L.length := by rw [← h.sl]; exact (List.getElem?_eq_some_iff.1 hsc).1
      have hac : askB st c = true := by rw [askB_of hsc]; exact decide_eq_true (by omega)
      have h1 := qF_at ha haL
      have h2 := qF_at hac hcL
      have e' : (qF st c).length = (qF st a).length := e
      rw [e'] at h2
      rw [h1] at h2
      rw [Option.some.inj h2]; exact hc
    have e1 : ord.take (i + 1) = ord.take i ++ [k] := by rw [List.take_add_one, hk]; rfl
    rw [e1, plT_snoc, effA_of hp hd, ← seenP_eff (s := s)]
    refine FolR.step ih ⟨?_, ?_, ?_, ?_, ?_, ?_⟩ (k := numK st k)
    · rw [List.getElem?_map, List.getElem?_map, hk]; rfl
    · rw [htk]
      intro hm
      have h1 := hin k hak hkL hm
      obtain ⟨j, hj⟩ := List.mem_iff_getElem?.1 h1
      have hjl := (List.getElem?_eq_some_iff.1 hj).1
      rw [List.length_take] at hjl
      rw [List.getElem?_take, if_pos (by omega)] at hj
      have h2 := (List.getElem?_inj (by omega : j < ord.length) h.nd).1 (hj.trans hk.symm)
      omega
    · rw [List.getElem?_map, hq]; show some (seenF L st k) = _; rw [seenF_of hp hs]
    · rw [List.getElem?_map, hq]; show some (seenG L dss st k) = _; rw [seenG_of hp hd hs]
    · intro j o hj ho hb
      obtain ⟨a, sa, pa, da, g1, g2, g3, g4, g5, g6, _, g8⟩ := h.seen ho
      obtain ⟨hans, hlt⟩ := Opv.bef_ans hb
      rw [g5] at hans hlt
      rw [seenP_to, seenP_fr] at hlt
      have h3 : sa = 3 := by
        rcases Nat.lt_or_ge sa 3 with h9 | h9
        · have := (g8.un h9).1
          unfold Opv.ans at hans
          rw [seenP_to, this] at hans
          cases hans
        · have := h.s3 a sa g1; omega
      subst h3
      rw [htk, ← g6, zs_mem]
      exact List.mem_map.2 ⟨a, h.bef i k hk a pa p g1 g2 hp hlt, rfl⟩
    · unfold Opv.fit
      have hA := h.ask k s p ds hs (by omega) hp hd
      unfold seenP seenD
      by_cases hc : s < 3 ∧ p.k = 1
      · rw [if_pos hc, if_pos hc]
        have ht := (hA.un hc.1).1
        simp [Opv.ans, ht]
      · rw [if_neg hc, if_neg hc]
        by_cases hk1 : p.k = 1
        · have := h.rd i k p ds hk hp hd hk1
          rw [← this]
          simp
        · simp [hk1]
theorem RS.whl {n t : Nat} {first : List Nat} {L : List Opv} {dss : List (List Nat)} {st ord : List Nat} {b : List Nat} (h : RS n t first L dss st ord b) : Whl (seenL L st L.length) (zs (ord.map (numK st))) (seenL L st L.length).length := by
  intro j o hj ho ha
  obtain ⟨a, sa, pa, da, g1, g2, g3, g4, g5, g6, _, g8⟩ := h.seen ho
  have h3 : 2 ≤ sa := by
    rcases Nat.lt_or_ge sa 3 with h9 | h9
    · have := (g8.un h9).1
      unfold Opv.ans at ha
      rw [g5, seenP_to, this] at ha
      cases ha
    · omega
  rw [← g6, zs_mem]
  exact List.mem_map.2 ⟨a, (h.ordm a).2 ⟨sa, g1, h3⟩, rfl⟩
end Go.Proofs.Ytjkoambfecmglaa
