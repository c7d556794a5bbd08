import Derived.Test.YtjkoambfecmglaaJR
import Derived.WalkMore
namespace Go.Proofs.Ytjkoambfecmglaa
open Go.RowKit Go.Maps
set_option linter.unusedVariables false
set_option linter.unusedSimpArgs false
set_option maxRecDepth 100000
/-- what is noted as leading nowhere does -/
def NW (s : SP) (n : Nat) (M : DataW Unit) : Prop := ∀ D bs, D < 65536 → bs.length = n → (∀ x ∈ bs, x < 256) → has M (kl D bs) = true → s.Dead D bs
theorem NW.put {s : SP} {n : Nat} {M : DataW Unit} (h : NW s n M) (hns : n ≤ 4096) {D : Nat} {bs : List Nat} (hD : D < 65536) (hb : bs.length = n) (hx : ∀ x ∈ bs, x < 256) (hd : s.Dead D bs) : NW s n (M.put (kl D bs) (.lit (.bool true))) := fun D' bs' hD' hb' hx' hh => by
  by_cases e : kl D' bs' = kl D bs
  · obtain ⟨rfl, rfl⟩ := kl_inj hD' (by omega) hD (by omega) hx' hx e
    exact hd
  · rw [has_put_other e] at hh
    exact h D' bs' hD' hb' hx' hh
theorem Sm.insert {W : World} {B Q m oc A gh hc gv vc n r N : Nat} {oa : Option Addr} {ah : List Nat} {L : List Lv} {M : DataW Unit} (h : Sm W B Q oa m oc A gh hc ah gv vc n L r N M) (hN : N < maxLen) {D : Nat} {bs : List Nat} (hD : D < 65536) (hb : bs.length ≤ 4096) :
    ∃ U, (Instr.mapUpdate TMp (.map (some r)) (.agg #[.int .u16 (D : Int), .string (bstr bs)]) (.agg #[])).run Try.prog W = .ok () U ∧ Sm U B Q oa m oc A gh hc ah gv vc n L r (N + 1) (M.put (kl D bs) (.lit (.bool true))) ∧ W.grownBy U (some r) := by
  obtain ⟨U, h1, h2, h3⟩ := h.mp.update keyed Try.underlying89 hN (d := .lit (.bool true)) (ps := []) (key_some hD hb) (val := .agg #[]) rfl
  obtain ⟨es, clock, hr⟩ := h.mpb
  refine ⟨U, h1, ?_, h3⟩
  have far : ∀ (g : Nat) (cs : Array Value) (t : TypeId), W.heap[g]? = some (.cells cs t (0, 0)) → U.heap[g]? = W.heap[g]? := fun g cs t hg => h3.block g (block_lt hg) (fun e => by cases e; rw [hr] at hg; cases hg)
  obtain ⟨_, cu, hgv⟩ := h.gvb
  obtain ⟨_, ch, hgh⟩ := h.ghb
  refine ⟨(far Q _ _ h.blk).trans h.blk, h.hQ, owns_same h.ahd fun g e => by cases e; exact far gh _ _ hgh, ?_, h.len, fun j v hj => ⟨owns_same (h.now j v hj).1 fun g e => ?_, (h.now j v hj).2⟩, h.apL, h.hr, h2⟩
  · refine ⟨h.lvs.1, ?_⟩
    rcases h.lvs.2 with hv | ⟨g, cap, cur, hv, hg, hc2, hr2⟩
    · exact .inl hv
    · exact .inr ⟨g, cap, cur, hv, hg, (far g _ _ hc2).trans hc2, hr2⟩
  · obtain ⟨_, cs, hcs⟩ := h.nob hj e
    exact far g _ _ hcs
theorem lvX_eq {W W' : World} {B Q m oc A gh hc gv vc n r N N' : Nat} {oa : Option Addr} {ah : List Nat} {L L' : List Lv} {M M' : DataW Unit} (h : Sm W B Q oa m oc A gh hc ah gv vc n L r N M) (h' : Sm W' B Q oa m oc A gh hc ah gv vc n L' r N' M') {j : Nat} (hj : j < m + 1) (he : L'[j]? = L[j]?) : lvX W' gv j = lvX W gv j := by
  have hl : j < L.length := by rw [h.len]; exact hj
  have hv : L[j]? = some L[j] := List.getElem?_eq_getElem hl
  rw [h.lvX hv, h'.lvX (he.trans hv)]
theorem Inv.setx {s : SP} {first ks : List Nat} {L : List Lv} {v : Lv} {y : Nat} (h : Inv s first ks L) (hv : L[ks.length]? = some v) : Inv s first ks (L.set ks.length { v with x := y }) :=
  h.same fun j u hj hu => by
    by_cases e : ks.length = j
    · subst e
      rw [hv] at hu; cases hu
      exact ⟨_, List.getElem?_set_self (List.getElem?_eq_some_iff.1 hv).1, rfl, rfl, fun h => absurd h (Nat.lt_irrefl _)⟩
    · exact ⟨u, by rw [List.getElem?_set_ne e]; exact hu, rfl, rfl, fun _ => rfl⟩
theorem Inv.setn {s : SP} {first ks : List Nat} {L : List Lv} {u : Lv} {i : Nat} (h : Inv s first ks L) (hi : ks.length < i) : Inv s first ks (L.set i u) :=
  h.same fun j v hj hv => ⟨v, by rw [List.getElem?_set_ne (by omega)]; exact hv, rfl, rfl, fun _ => rfl⟩
theorem Tried.succ {s : SP} {D : Nat} {bs : List Nat} {x : Nat} (h : Tried s D bs x) (hx : s.ok D bs x = true → s.Dead (D ||| 2 ^ x) (s.eff x bs)) : Tried s D bs (x + 1) := fun i hi hok => by
  rcases Nat.lt_or_ge i x with h1 | h1
  · exact h i h1 hok
  · obtain rfl : i = x := by omega
    exact hx hok
set_option maxHeartbeats 32000000 in
/-- the search -/
theorem find_any {w : World} {B Q m oc A gh hc gv vc n r : Nat} {oa : Option Addr} {ah : List Nat} {L0 : List Lv} {l : List Opv} {dss : List (List Nat)} {first : List Nat} (h : Sm w B Q oa m oc A gh hc ah gv vc n L0 r 0 (.map [])) (hO : ∀ U, Below B w U → OpsD U oa l dss) (hml : l.length = m) (hw : ∀ (k : Nat) (p : Opv), l[k]? = some p → p.may n = true) (hm : m ≤ 10) (hns : n ≤ 4096) (hah : ah.length = m) (hal : ∀ x ∈ ah, x < 65536) (hAl : A < 65536) (hA : ∀ i, A.testBit i = true → i < m) (hBW : B ≤ w.heap.size) (hfl : first.length = n) (hf8 : ∀ x ∈ first, x < 256) (hL0 : ∃ v, L0[0]? = some v ∧ v.D = 0 ∧ v.bs = first ∧ v.x = 0) :
    Calls Try.prog 33 #[.pointer (some ⟨Q, 0, none⟩)] w fun e w' => Below B w w' ∧ ((∃ ks za zc, e = .returned (.tuple #[.slice za ks.length zc, .bool true]) ∧ (spOf l dss A ah).Finds 0 first ks ∧ w'.ownsRow B 3 1 (.slice za ks.length zc) ks.length (ks.map iv)) ∨ (e = .returned (.tuple #[.slice none 0 0, .bool false]) ∧ (spOf l dss A ah).Dead 0 first)) := by
  obtain ⟨C, hC⟩ : ∃ C, muS m (lvX w gv) 0 = C := ⟨_, rfl⟩
  have HCm : Hid (C < maxLen) := by
    show C < maxLen
    rw [← hC]
    unfold muS
    have h1 : (m + 1 - lvX w gv 0) * (m + 2) ^ m ≤ 11 * 12 ^ 10 := Nat.mul_le_mul (by omega) (Nat.le_trans (Nat.pow_le_pow_left (by omega) m) (Nat.pow_le_pow_right (by decide) hm))
    have h2 : 11 * 12 ^ 10 < maxLen := by decide
    omega
  have HSp : Hid (l.length = m ∧ A < 65536 ∧ (∀ i, A.testBit i = true → i < m) ∧ ah.length = m ∧ ∀ x ∈ ah, x < 65536) := ⟨hml, hAl, hA, hah, hal⟩
  have HOd : Hid (∀ U, Below B w U → OpsD U oa l dss) := hO
  have HMy : Hid (∀ (k : Nat) (p : Opv), l[k]? = some p → p.may n = true) := hw
  have HBW : Hid (B ≤ w.heap.size) := hBW
  have HF8 : Hid (first.length = n ∧ ∀ x ∈ first, x < 256) := ⟨hfl, hf8⟩
  have H0 : Hid (∃ (ks : List Nat) (L : List Lv) (N : Nat) (M : DataW Unit), ks.length = 0 ∧ Sm w B Q oa m oc A gh hc ah gv vc n L r N M ∧ Inv (spOf l dss A ah) first ks L ∧ (∃ v, L[ks.length]? = some v ∧ v.x ≤ m ∧ Tried (spOf l dss A ah) (mask ks) (bsAt (spOf l dss A ah) first ks) v.x) ∧ NW (spOf l dss A ah) n M ∧ N + muS m (lvX w gv) ks.length ≤ C ∧ Below B w w) := by
    obtain ⟨v, h1, h2, h3, h4⟩ := hL0
    refine ⟨[], L0, 0, .map [], rfl, h, ⟨List.nodup_nil, fun k hk => by simp at hk, fun j hj => ?_, fun j k hk => by simp at hk⟩, ⟨v, h1, by omega, fun i hi => by omega⟩, ?_, by rw [show ([] : List Nat).length = 0 from rfl, hC]; omega, Below.refl _ _⟩
    · obtain rfl : j = 0 := by simpa using hj
      exact ⟨v, h1, by simpa [mask] using h2, by simpa [bsAt] using h3, fun k hk => by simp at hk⟩
    · intro D bs _ _ _ hh
      have : has (.map [] : DataW Unit) (kl D bs) = false := rfl
      rw [this] at hh; cases hh
  clear h hO hml hw hah hal hAl hA hBW hfl hf8 hL0 hC
  go_enter Try.func33, Try.ntmps33
  go_wp2_with fail
  go_step3
  go_wp2_with fail
  try go_step3
  try go_wp2_with fail
  go_loopw [4] (fun xv wr => ∃ (ks : List Nat) (L : List Lv) (N : Nat) (M : DataW Unit), xv = .int .i64 (ks.length : Int) ∧ Hid (Sm wr B Q oa m oc A gh hc ah gv vc n L r N M ∧ Inv (spOf l dss A ah) first ks L ∧ (∃ v, L[ks.length]? = some v ∧ v.x ≤ m ∧ Tried (spOf l dss A ah) (mask ks) (bsAt (spOf l dss A ah) first ks) v.x) ∧ NW (spOf l dss A ah) n M ∧ N + muS m (lvX wr gv) ks.length ≤ C ∧ Below B w wr)) (fun xv wr => muS m (lvX wr gv) (intOf xv).toNat)
  case atStart =>
    obtain ⟨ks, L, N, M, h0, h1⟩ := H0.out
    exact ⟨ks, L, N, M, by rw [h0]; rfl, h1⟩
  case round =>
    obtain ⟨ks, L, N, M, rfl, HI⟩ := hrel
    clear H0
    obtain ⟨d, hd⟩ : ∃ d, ks.length = d := ⟨_, rfl⟩
    obtain ⟨v, hv, hvx, htr⟩ := HI.out.2.2.1
    obtain ⟨v9, hv9, hvD, hvb⟩ := HI.out.2.1.top
    rw [hv] at hv9
    cases hv9
    rw [hd] at hv
    have HD : Hid (ks.length = d) := hd
    have hdm : d ≤ m := by rw [← hd, ← HSp.out.1]; exact nodup_lt HI.out.2.1.nd HI.out.2.1.lt
    have hDl : v.D < 65536 := by
      rw [hvD]
      exact Nat.lt_of_lt_of_le (mask_lt HI.out.2.1.lt) (Nat.pow_le_pow_right (n := 2) (by decide) (show (spOf l dss A ah).m ≤ 16 by show l.length ≤ 16; rw [HSp.out.1]; omega))
    have HV : Hid (L[d]? = some v ∧ v.x ≤ m ∧ v.D = mask ks ∧ v.bs = bsAt (spOf l dss A ah) first ks ∧ Tried (spOf l dss A ah) (mask ks) (bsAt (spOf l dss A ah) first ks) v.x) := ⟨hv, hvx, hvD, hvb, htr⟩
    obtain ⟨m1, hm1⟩ : ∃ m1, m + 1 = m1 := ⟨_, rfl⟩
    have HM1 : Hid (m + 1 = m1) := hm1
    have q3 := HI.out.1.q3
    rw [hm1] at q3
    have dd0 : (0 : Int) ≤ (d : Int) := by omega
    have dd9 : (d : Int) < (m1 : Int) := by omega
    obtain ⟨D, hDD⟩ : ∃ D, v.D = D := ⟨_, rfl⟩
    have HDD : Hid (v.D = D) := hDD
    rw [hDD] at hDl
    have HC3 : Hid (∀ w' : World, Below wr.heap.size wr w' → w'.cell? ⟨gv, d * 3, none⟩ = some (.int .u16 (D : Int)) ∧ w'.cell? ⟨Q, 1, none⟩ = some (.int .u16 (A : Int))) := fun w' hb => ⟨by have := (HI.out.1.later hb).lvc hv (c := 0) (by decide); rw [← hDD]; exact this, (HI.out.1.later hb).q1⟩
    have HH := fun U => holds_any D A hDl HSp.out.2.1 U
    have HBr : Hid (Below wr.heap.size wr wr.drew) := ⟨rfl, rfl, rfl, Nat.le_refl _, fun _ _ => rfl⟩
    have HIm : Hid (mask ks = D ∧ Sub (spOf l dss A ah).A (mask ks) = Sub A D) := ⟨by rw [← hDD, hvD], by rw [← hvD, hDD]; rfl⟩
    rw [hd]
    clear hv hvx hvD hvb htr hd hDD hm1
    go_wp2_with fail
    refine wp_region_held_drew (S := (fun w' => w'.cell? ⟨gv, d * 3, none⟩ = some (.int .u16 (D : Int)) ∧ w'.cell? ⟨Q, 1, none⟩ = some (.int .u16 (A : Int)))) (by kernel_rfl) ?_ (fun hHeld => ?_)
    · exact HC3.out _ HBr.out
    refine wpAnyH_take (i := 0) (oi := { dst := some 12, op := Op.move (Operand.tmp 5), type := 98, pos := _, after := #[], guard := none }) (v := ?_) rfl (by kernel_rfl) (by kernel_rfl) (by kernel_rfl) (fun _ _ _ h => h) (Or.inl ⟨by rfl, ?_⟩) (by assumption) ?_
    rotate_left
    · (intro w hSw; (try dsimp only at hSw); go_simp) <;> with_reducible rfl
    try simp only [Act.put, List.setIfInBounds_toArray, List.set_cons_zero, List.set_cons_succ]
    refine wpAnyH_take (i := 1) (oi := { dst := some 13, op := Op.nilCheck (Operand.tmp 12), type := 0, pos := _, after := _, guard := none }) (v := ?_) rfl (by kernel_rfl) (by kernel_rfl) (by kernel_rfl) (fun _ _ _ h => h) (Or.inl ⟨by rfl, ?_⟩) (by assumption) ?_
    rotate_left
    · (intro w hSw; (try dsimp only at hSw); go_simp) <;> with_reducible rfl
    try simp only [Act.put, List.setIfInBounds_toArray, List.set_cons_zero, List.set_cons_succ]
    refine wpAnyH_take (i := 2) (oi := { dst := some 14, op := Op.fieldAddr 97 (Operand.tmp 13) 0, type := 0, pos := _, after := _, guard := none }) (v := ?_) rfl (by kernel_rfl) (by kernel_rfl) (by kernel_rfl) (fun _ _ _ h => h) (Or.inl ⟨by rfl, ?_⟩) (by assumption) ?_
    rotate_left
    · (intro w hSw; (try dsimp only at hSw); go_simp) <;> with_reducible rfl
    try simp only [Act.put, List.setIfInBounds_toArray, List.set_cons_zero, List.set_cons_succ]
    refine wpAnyH_take (i := 3) (oi := { dst := some 15, op := Op.load 91 (Operand.tmp 14), type := 91, pos := _, after := _, guard := none }) (v := ?_) rfl (by kernel_rfl) (by kernel_rfl) (by kernel_rfl) (fun _ _ _ h => h) (Or.inl ⟨by rfl, ?_⟩) (by assumption) ?_
    rotate_left
    · (intro w hSw; (try dsimp only at hSw); go_simp) <;> with_reducible rfl
    try simp only [Act.put, List.setIfInBounds_toArray, List.set_cons_zero, List.set_cons_succ]
    refine wpAnyH_take (i := 4) (oi := { dst := some 16, op := Op.move (Operand.tmp 0), type := 68, pos := _, after := #[], guard := none }) (v := ?_) rfl (by kernel_rfl) (by kernel_rfl) (by kernel_rfl) (fun _ _ _ h => h) (Or.inl ⟨by rfl, ?_⟩) (by assumption) ?_
    rotate_left
    · (intro w hSw; (try dsimp only at hSw); go_simp) <;> with_reducible rfl
    try simp only [Act.put, List.setIfInBounds_toArray, List.set_cons_zero, List.set_cons_succ]
    refine wpAnyH_take (i := 5) (oi := { dst := some 17, op := Op.nilCheck (Operand.tmp 16), type := 0, pos := _, after := _, guard := none }) (v := ?_) rfl (by kernel_rfl) (by kernel_rfl) (by kernel_rfl) (fun _ _ _ h => h) (Or.inl ⟨by rfl, ?_⟩) (by assumption) ?_
    rotate_left
    · (intro w hSw; (try dsimp only at hSw); go_simp) <;> with_reducible rfl
    try simp only [Act.put, List.setIfInBounds_toArray, List.set_cons_zero, List.set_cons_succ]
    refine wpAnyH_take (i := 6) (oi := { dst := some 18, op := Op.fieldAddr 94 (Operand.tmp 17) 1, type := 0, pos := _, after := _, guard := none }) (v := ?_) rfl (by kernel_rfl) (by kernel_rfl) (by kernel_rfl) (fun _ _ _ h => h) (Or.inl ⟨by rfl, ?_⟩) (by assumption) ?_
    rotate_left
    · (intro w hSw; (try dsimp only at hSw); go_simp) <;> with_reducible rfl
    try simp only [Act.put, List.setIfInBounds_toArray, List.set_cons_zero, List.set_cons_succ]
    refine wpAnyH_take (i := 7) (oi := { dst := some 19, op := Op.load 91 (Operand.tmp 18), type := 91, pos := _, after := _, guard := none }) (v := ?_) rfl (by kernel_rfl) (by kernel_rfl) (by kernel_rfl) (fun _ _ _ h => h) (Or.inl ⟨by rfl, ?_⟩) (by assumption) ?_
    rotate_left
    · (intro w hSw; (try dsimp only at hSw); go_simp) <;> with_reducible rfl
    try simp only [Act.put, List.setIfInBounds_toArray, List.set_cons_zero, List.set_cons_succ]
    refine wpAnyH_ready (rs := [8]) (by kernel_rfl) (by simp) ?_
    refine AllReadyH.cons (o := { dst := some 20, op := Op.call { callee := Callee.value (Operand.func 55), args := #[Operand.tmp 15, Operand.tmp 19], argTypes := #[91, 91] }, type := 4, pos := _, after := _, guard := none }) rfl (fun K hK => ?_) AllReadyH.nil
    go_simp
    go_at_call 55
    refine (HH _).mono ?_
    rintro ex w9 ⟨rfl, rfl⟩
    try go_simp
    clear hHeld
    refine hK.out _ _ ?_ (fun hHeld => ?_)
    · exact HC3.out _ HBr.out
    clear hK K
    try simp only [Act.put, List.setIfInBounds_toArray, List.set_cons_zero, List.set_cons_succ]
    refine wpAnyH_done (by kernel_rfl) ?_ _
    clear hHeld
    cases hS : Sub A D with
    | true =>
      have HFi : Hid ((spOf l dss A ah).Finds 0 first ks) := HI.out.2.1.found (by rw [HIm.out.2]; exact hS)
      have HWy : Hid _ := way_any (HI.out.1.later HBr.out) hm ks d HD.out hdm (fun j k hk => by
        obtain ⟨u, h1, _, _, h4⟩ := HI.out.2.1.lv j (Nat.le_of_lt (List.getElem?_eq_some_iff.1 hk).1)
        exact ⟨u, h1, h4 k hk⟩) (fun k hk => by have := HI.out.2.1.lt k hk; rw [← HSp.out.1]; exact this)
      go_wp2_with fail
      refine Calls.mono HWy.out ?_
      rintro ex W2 ⟨za, zc, rfl, how, hbw⟩
      have HFo : Hid (W2.ownsRow B 3 1 (.slice za d zc) d (ks.map iv) ∧ Below B w W2) := ⟨owns_mono how (Nat.le_trans HBW.out HI.out.2.2.2.2.2.size), HI.out.2.2.2.2.2.trans ((HBr.out.trans hbw).mono (Nat.le_trans HBW.out HI.out.2.2.2.2.2.size))⟩
      clear how hbw HWy
      go_wp2
      rw [Exit.noGoto_ret]
      go_ret2
      exact ⟨HFo.out.2, .inl ⟨ks, za, zc, by rw [HD.out]; rfl, HFi.out, by rw [HD.out]; exact HFo.out.1⟩⟩
    | false =>
      have HSf : Hid (Sub (spOf l dss A ah).A (mask ks) = false) := by show _ = _; rw [HIm.out.2]; exact hS
      have HRm : Hid (d < m) := by
        have h1 := HI.out.2.1.room (by show l.length ≤ 16; rw [HSp.out.1]; omega) (fun i hi => by show i < l.length; rw [HSp.out.1]; exact HSp.out.2.2.1 i hi) HSp.out.2.1 HSf.out
        rw [HD.out] at h1
        have h2 : d < l.length := h1
        show d < m
        rw [HSp.out.1] at h2; exact h2
      have HNx : Hid (∃ u, L[d + 1]? = some u) := ⟨_, List.getElem?_eq_getElem (by rw [HI.out.1.len]; have := HRm.out; omega)⟩
      obtain ⟨mu0, hmu0⟩ : ∃ mu0, muS m (lvX wr gv) d = mu0 := ⟨_, rfl⟩
      have HMu : Hid (muS m (lvX wr gv) d = mu0 ∧ N + mu0 ≤ C ∧ NW (spOf l dss A ah) n M) := ⟨hmu0, by rw [← hmu0]; have := HI.out.2.2.2.2.1; rw [HD.out] at this; exact this, HI.out.2.2.2.1⟩
      have HI2 : Hid (Sm wr B Q oa m oc A gh hc ah gv vc n L r N M ∧ Inv (spOf l dss A ah) first ks L ∧ Below B w wr) := ⟨HI.out.1, HI.out.2.1, HI.out.2.2.2.2.2⟩
      clear HH HC3 q3 hmu0 HI
      go_wp2_with fail
      go_loopw [4] (fun xv w2 => ∃ (L2 : List Lv), xv = .int .i64 (d : Int) ∧ Hid (Sm w2 B Q oa m oc A gh hc ah gv vc n L2 r N M ∧ Inv (spOf l dss A ah) first ks L2 ∧ (∃ v, L2[d]? = some v ∧ v.x ≤ m ∧ v.D = D ∧ v.bs = bsAt (spOf l dss A ah) first ks ∧ Tried (spOf l dss A ah) (mask ks) (bsAt (spOf l dss A ah) first ks) v.x) ∧ muS m (lvX w2 gv) d ≤ mu0 ∧ Below B w w2)) (fun _ w2 => m + 1 - lvX w2 gv d)
      case atStart => exact ⟨L, rfl, HI2.out.1.later HBr.out, HI2.out.2.1, ⟨v, HV.out.1, HV.out.2.1, HDD.out, HV.out.2.2.2.1, HV.out.2.2.2.2⟩, by rw [muS_same (f := lvX wr.drew gv) (g := lvX wr gv) (fun j _ => rfl), HMu.out.1]; exact Nat.le_refl _, HI2.out.2.2.trans ⟨rfl, rfl, rfl, Nat.le_refl _, fun _ _ => rfl⟩⟩
      case round =>
        obtain ⟨L2, rfl, HJ⟩ := hrel
        obtain ⟨v2, hv2, hx2, hD2, hb2, ht2⟩ := HJ.out.2.2.1
        obtain ⟨x, hxx⟩ : ∃ x, v2.x = x := ⟨_, rfl⟩
        have HV2 : Hid (L2[d]? = some v2 ∧ v2.x = x ∧ v2.D = D ∧ v2.bs = bsAt (spOf l dss A ah) first ks ∧ Tried (spOf l dss A ah) (mask ks) (bsAt (spOf l dss A ah) first ks) x) := ⟨hv2, hxx, hD2, hb2, by rw [← hxx]; exact ht2⟩
        have hxm : x ≤ m := by rw [← hxx]; exact hx2
        have HBw : Hid (Below wr.heap.size wr wr.drew) := ⟨rfl, rfl, rfl, Nat.le_refl _, fun _ _ => rfl⟩
        have HC4 : Hid (∀ w' : World, Below wr.heap.size wr w' → w'.cell? ⟨gv, d * 3 + 2, none⟩ = some (.int .i64 (x : Int)) ∧ w'.cell? ⟨Q, 0, none⟩ = some (.slice oa m oc)) := fun w' hb => ⟨by have := (HJ.out.1.later hb).lvc hv2 (c := 2) (by decide); rw [← hxx]; exact this, (HJ.out.1.later hb).q0⟩
        have HLx : Hid (lvX wr gv d = x) := by show _ = _; rw [HJ.out.1.lvX hv2, hxx]
        have HMy2 : Hid (x ≤ m) := hxm
        by_cases hlt : x < m
        · have n9 : decide ((x : Int) < (m : Int)) = true := decide_eq_true (by omega)
          obtain ⟨x1, hx1⟩ : ∃ x1, x + 1 = x1 := ⟨_, rfl⟩
          have HX1 : Hid (x + 1 = x1) := hx1
          have hxa : IntKind.i64.wrap ((x : Int) + 1) = (x1 : Int) := by rw [IntKind.wrap_i64]; omega
          have hxb : IntKind.i64.wrap ((x1 : Int) - 1) = (x : Int) := by rw [IntKind.wrap_i64]; omega
          obtain ⟨d1, hd1⟩ : ∃ d1, d + 1 = d1 := ⟨_, rfl⟩
          have HD1 : Hid (d + 1 = d1) := hd1
          have hda : IntKind.i64.wrap ((d : Int) + 1) = (d1 : Int) := by rw [IntKind.wrap_i64]; omega
          have e10 : (0 : Int) ≤ (d1 : Int) := by omega
          have e19 : (d1 : Int) < (m1 : Int) := by have h1 := HM1.out; have h2 := HRm.out; omega
          have s1 : wr.cell? ⟨gv, d * 3 + 2, none⟩ = some (.int .i64 (x : Int)) := (HC4.out wr (Below.refl _ _)).1
          have s2 : wr.frozen? ⟨gv, d * 3 + 2, none⟩ = false := HJ.out.1.lvf _
          obtain ⟨U5, hU5⟩ : ∃ U5, U5 = (wr.setCell ⟨gv, d * 3 + 2, none⟩ (.int .i64 (x1 : Int))).drew := ⟨_, rfl⟩
          have HU5 : Hid (U5 = (wr.setCell ⟨gv, d * 3 + 2, none⟩ (.int .i64 (x1 : Int))).drew) := hU5
          have hS5 : Sm U5.drew B Q oa m oc A gh hc ah gv vc n (L2.set d { v2 with x := x1 }) r N M := by
            have h1 := HJ.out.1.put (c := 2) (v' := { v2 with x := x1 }) (x := .int .i64 (x1 : Int)) hv2 (by decide) rfl rfl rfl
            have h2 := h1.later (V := U5.drew) (by rw [hU5]; exact ⟨rfl, rfl, rfl, Nat.le_refl _, fun _ _ => rfl⟩)
            exact h2
          have HS5 : Hid (Sm U5.drew B Q oa m oc A gh hc ah gv vc n (L2.set d { v2 with x := x1 }) r N M ∧ Below B w U5.drew) := ⟨hS5, by
            rw [hU5]
            exact (HJ.out.2.2.2.2.setCell (p := ⟨gv, d * 3 + 2, none⟩) HJ.out.1.gvb.1 _).trans ⟨rfl, rfl, rfl, Nat.le_refl _, fun _ _ => rfl⟩⟩
          have HL3 : Hid ((L2.set d { v2 with x := x1 })[d]? = some { v2 with x := x1 }) := List.getElem?_set_self (List.getElem?_eq_some_iff.1 hv2).1
          obtain ⟨bl, hbl⟩ : ∃ bl, (L2.set d { v2 with x := x1 })[d + 1]? = some bl := ⟨_, List.getElem?_eq_getElem (by rw [hS5.len]; have := HRm.out; omega)⟩
          have HLd : Hid _ := leads_any hS5 (fun U hU => HOd.out U (HS5.out.2.trans hU)) HSp.out.1 HMy.out hlt hm hns HSp.out.2.2.2.1 HSp.out.2.2.2.2 HL3.out hbl (by rw [hD2]; exact hDl) (Nat.le_trans HBW.out HS5.out.2.size)
          rw [show Hid _ = _ from rfl] at HLd
          have HBl : Hid ((L2.set d { v2 with x := x1 })[d + 1]? = some bl) := hbl
          have HC6 : Hid (∀ w' : World, Below U5.drew.heap.size U5.drew w' → w'.cell? ⟨gv, d * 3 + 2, none⟩ = some (.int .i64 (x1 : Int)) ∧ w'.cell? ⟨Q, 3, none⟩ = some (.slice (some ⟨gv, 0, none⟩) m1 vc)) := fun w' hb => ⟨(hS5.later hb).lvc HL3.out (c := 2) (by decide), by have := (hS5.later hb).q3; rw [HM1.out] at this; exact this⟩
          have HIv : Hid (Inv (spOf l dss A ah) first ks (L2.set d { v2 with x := x1 })) := by
            have := HJ.out.2.1.setx (v := v2) (y := x1) (by rw [HD.out]; exact hv2)
            rw [HD.out] at this; exact this
          rw [hd1] at HLd
          clear hS5 hbl hv2 hxx hD2 hb2 ht2 hx2 hx1 hd1 hU5
          go_wp2_with fail
          refine wp_region_held_drew (S := (fun w' => w'.cell? ⟨gv, d * 3 + 2, none⟩ = some (.int .i64 (x : Int)) ∧ w'.cell? ⟨Q, 0, none⟩ = some (.slice oa m oc))) (by kernel_rfl) ?_ (fun hHeld => ?_)
          · exact HC4.out _ HBw.out
          refine wpAnyH_take (i := 0) (oi := { dst := some 21, op := Op.move (Operand.tmp 5), type := 98, pos := _, after := #[], guard := none }) (v := ?_) rfl (by kernel_rfl) (by kernel_rfl) (by kernel_rfl) (fun _ _ _ h => h) (Or.inl ⟨by rfl, ?_⟩) (by assumption) ?_
          rotate_left
          · (intro w hSw; (try dsimp only at hSw); go_simp) <;> with_reducible rfl
          try simp only [Act.put, List.setIfInBounds_toArray, List.set_cons_zero, List.set_cons_succ]
          refine wpAnyH_take (i := 1) (oi := { dst := some 22, op := Op.nilCheck (Operand.tmp 21), type := 0, pos := _, after := _, guard := none }) (v := ?_) rfl (by kernel_rfl) (by kernel_rfl) (by kernel_rfl) (fun _ _ _ h => h) (Or.inl ⟨by rfl, ?_⟩) (by assumption) ?_
          rotate_left
          · (intro w hSw; (try dsimp only at hSw); go_simp) <;> with_reducible rfl
          try simp only [Act.put, List.setIfInBounds_toArray, List.set_cons_zero, List.set_cons_succ]
          refine wpAnyH_take (i := 2) (oi := { dst := some 23, op := Op.fieldAddr 97 (Operand.tmp 22) 2, type := 0, pos := _, after := _, guard := none }) (v := ?_) rfl (by kernel_rfl) (by kernel_rfl) (by kernel_rfl) (fun _ _ _ h => h) (Or.inl ⟨by rfl, ?_⟩) (by assumption) ?_
          rotate_left
          · (intro w hSw; (try dsimp only at hSw); go_simp) <;> with_reducible rfl
          try simp only [Act.put, List.setIfInBounds_toArray, List.set_cons_zero, List.set_cons_succ]
          refine wpAnyH_take (i := 3) (oi := { dst := some 24, op := Op.load 3 (Operand.tmp 23), type := 3, pos := _, after := _, guard := none }) (v := ?_) rfl (by kernel_rfl) (by kernel_rfl) (by kernel_rfl) (fun _ _ _ h => h) (Or.inl ⟨by rfl, ?_⟩) (by assumption) ?_
          rotate_left
          · (intro w hSw; (try dsimp only at hSw); go_simp) <;> with_reducible rfl
          try simp only [Act.put, List.setIfInBounds_toArray, List.set_cons_zero, List.set_cons_succ]
          refine wpAnyH_take (i := 4) (oi := { dst := some 25, op := Op.move (Operand.tmp 0), type := 68, pos := _, after := #[], guard := none }) (v := ?_) rfl (by kernel_rfl) (by kernel_rfl) (by kernel_rfl) (fun _ _ _ h => h) (Or.inl ⟨by rfl, ?_⟩) (by assumption) ?_
          rotate_left
          · (intro w hSw; (try dsimp only at hSw); go_simp) <;> with_reducible rfl
          try simp only [Act.put, List.setIfInBounds_toArray, List.set_cons_zero, List.set_cons_succ]
          refine wpAnyH_take (i := 5) (oi := { dst := some 26, op := Op.nilCheck (Operand.tmp 25), type := 0, pos := _, after := _, guard := none }) (v := ?_) rfl (by kernel_rfl) (by kernel_rfl) (by kernel_rfl) (fun _ _ _ h => h) (Or.inl ⟨by rfl, ?_⟩) (by assumption) ?_
          rotate_left
          · (intro w hSw; (try dsimp only at hSw); go_simp) <;> with_reducible rfl
          try simp only [Act.put, List.setIfInBounds_toArray, List.set_cons_zero, List.set_cons_succ]
          refine wpAnyH_take (i := 6) (oi := { dst := some 27, op := Op.fieldAddr 94 (Operand.tmp 26) 0, type := 0, pos := _, after := _, guard := none }) (v := ?_) rfl (by kernel_rfl) (by kernel_rfl) (by kernel_rfl) (fun _ _ _ h => h) (Or.inl ⟨by rfl, ?_⟩) (by assumption) ?_
          rotate_left
          · (intro w hSw; (try dsimp only at hSw); go_simp) <;> with_reducible rfl
          try simp only [Act.put, List.setIfInBounds_toArray, List.set_cons_zero, List.set_cons_succ]
          refine wpAnyH_take (i := 7) (oi := { dst := some 28, op := Op.load 23 (Operand.tmp 27), type := 23, pos := _, after := _, guard := none }) (v := ?_) rfl (by kernel_rfl) (by kernel_rfl) (by kernel_rfl) (fun _ _ _ h => h) (Or.inl ⟨by rfl, ?_⟩) (by assumption) ?_
          rotate_left
          · (intro w hSw; (try dsimp only at hSw); go_simp) <;> with_reducible rfl
          try simp only [Act.put, List.setIfInBounds_toArray, List.set_cons_zero, List.set_cons_succ]
          refine wpAnyH_take (i := 8) (oi := { dst := some 29, op := Op.call { callee := Callee.builtin Builtin.len, args := #[Operand.tmp 28], argTypes := #[23] }, type := 3, pos := _, after := _, guard := none }) (v := ?_) rfl (by kernel_rfl) (by kernel_rfl) (by kernel_rfl) (fun _ _ _ h => h) (Or.inl ⟨by rfl, ?_⟩) (by assumption) ?_
          rotate_left
          · (intro w hSw; (try dsimp only at hSw); go_simp) <;> with_reducible rfl
          try simp only [Act.put, List.setIfInBounds_toArray, List.set_cons_zero, List.set_cons_succ]
          refine wpAnyH_take (i := 9) (oi := { dst := some 30, op := Op.binOp BinOp.lss 3 (Operand.tmp 24) (Operand.tmp 29) 3, type := 4, pos := _, after := _, guard := none }) (v := ?_) rfl (by kernel_rfl) (by kernel_rfl) (by kernel_rfl) (fun _ _ _ h => h) (Or.inl ⟨by rfl, ?_⟩) (by assumption) ?_
          rotate_left
          · (intro w hSw; (try dsimp only at hSw); go_simp) <;> with_reducible rfl
          try simp only [Act.put, List.setIfInBounds_toArray, List.set_cons_zero, List.set_cons_succ]
          refine wpAnyH_done (by kernel_rfl) ?_ _
          clear hHeld
          go_wp2_with fail
          rw [← HU5.out]
          clear s1 s2 hxa
          refine wp_region_held_drew (S := (fun w' => w'.cell? ⟨gv, d * 3 + 2, none⟩ = some (.int .i64 (x1 : Int)) ∧ w'.cell? ⟨Q, 3, none⟩ = some (.slice (some ⟨gv, 0, none⟩) m1 vc))) (by kernel_rfl) ?_ (fun hHeld => ?_)
          · exact HC6.out _ (Below.refl _ _)
          refine wpAnyH_take (i := 0) (oi := { dst := some 38, op := Op.move (Operand.tmp 0), type := 68, pos := _, after := #[], guard := none }) (v := ?_) rfl (by kernel_rfl) (by kernel_rfl) (by kernel_rfl) (fun _ _ _ h => h) (Or.inl ⟨by rfl, ?_⟩) (by assumption) ?_
          rotate_left
          · (intro w hSw; (try dsimp only at hSw); go_simp) <;> with_reducible rfl
          try simp only [Act.put, List.setIfInBounds_toArray, List.set_cons_zero, List.set_cons_succ]
          refine wpAnyH_take (i := 1) (oi := { dst := some 39, op := Op.move (Operand.tmp 5), type := 98, pos := _, after := #[], guard := none }) (v := ?_) rfl (by kernel_rfl) (by kernel_rfl) (by kernel_rfl) (fun _ _ _ h => h) (Or.inl ⟨by rfl, ?_⟩) (by assumption) ?_
          rotate_left
          · (intro w hSw; (try dsimp only at hSw); go_simp) <;> with_reducible rfl
          try simp only [Act.put, List.setIfInBounds_toArray, List.set_cons_zero, List.set_cons_succ]
          refine wpAnyH_take (i := 2) (oi := { dst := some 40, op := Op.move (Operand.tmp 0), type := 68, pos := _, after := #[], guard := none }) (v := ?_) rfl (by kernel_rfl) (by kernel_rfl) (by kernel_rfl) (fun _ _ _ h => h) (Or.inl ⟨by rfl, ?_⟩) (by assumption) ?_
          rotate_left
          · (intro w hSw; (try dsimp only at hSw); go_simp) <;> with_reducible rfl
          try simp only [Act.put, List.setIfInBounds_toArray, List.set_cons_zero, List.set_cons_succ]
          refine wpAnyH_take (i := 3) (oi := { dst := some 41, op := Op.nilCheck (Operand.tmp 40), type := 0, pos := _, after := _, guard := none }) (v := ?_) rfl (by kernel_rfl) (by kernel_rfl) (by kernel_rfl) (fun _ _ _ h => h) (Or.inl ⟨by rfl, ?_⟩) (by assumption) ?_
          rotate_left
          · (intro w hSw; (try dsimp only at hSw); go_simp) <;> with_reducible rfl
          try simp only [Act.put, List.setIfInBounds_toArray, List.set_cons_zero, List.set_cons_succ]
          refine wpAnyH_take (i := 4) (oi := { dst := some 42, op := Op.fieldAddr 94 (Operand.tmp 41) 3, type := 0, pos := _, after := _, guard := none }) (v := ?_) rfl (by kernel_rfl) (by kernel_rfl) (by kernel_rfl) (fun _ _ _ h => h) (Or.inl ⟨by rfl, ?_⟩) (by assumption) ?_
          rotate_left
          · (intro w hSw; (try dsimp only at hSw); go_simp) <;> with_reducible rfl
          try simp only [Act.put, List.setIfInBounds_toArray, List.set_cons_zero, List.set_cons_succ]
          refine wpAnyH_take (i := 5) (oi := { dst := some 43, op := Op.load 92 (Operand.tmp 42), type := 92, pos := _, after := _, guard := none }) (v := ?_) rfl (by kernel_rfl) (by kernel_rfl) (by kernel_rfl) (fun _ _ _ h => h) (Or.inl ⟨by rfl, ?_⟩) (by assumption) ?_
          rotate_left
          · (intro w hSw; (try dsimp only at hSw); go_simp) <;> with_reducible rfl
          try simp only [Act.put, List.setIfInBounds_toArray, List.set_cons_zero, List.set_cons_succ]
          refine wpAnyH_take (i := 6) (oi := { dst := some 44, op := Op.move (Operand.tmp 4), type := 3, pos := _, after := #[], guard := none }) (v := ?_) rfl (by kernel_rfl) (by kernel_rfl) (by kernel_rfl) (fun _ _ _ h => h) (Or.inl ⟨by rfl, ?_⟩) (by assumption) ?_
          rotate_left
          · (intro w hSw; (try dsimp only at hSw); go_simp) <;> with_reducible rfl
          try simp only [Act.put, List.setIfInBounds_toArray, List.set_cons_zero, List.set_cons_succ]
          refine wpAnyH_take (i := 7) (oi := { dst := some 45, op := Op.binOp BinOp.add 3 (Operand.tmp 44) (Operand.const (Value.int IntKind.i64 1)) 3, type := 3, pos := _, after := _, guard := none }) (v := ?_) rfl (by kernel_rfl) (by kernel_rfl) (by kernel_rfl) (fun _ _ _ h => h) (Or.inl ⟨by rfl, ?_⟩) (by assumption) ?_
          rotate_left
          · (intro w hSw; (try dsimp only at hSw); go_simp) <;> with_reducible rfl
          try simp only [Act.put, List.setIfInBounds_toArray, List.set_cons_zero, List.set_cons_succ]
          refine wpAnyH_take (i := 8) (oi := { dst := some 46, op := Op.indexAddr 92 (Operand.tmp 43) (Operand.tmp 45), type := 0, pos := _, after := _, guard := none }) (v := ?_) rfl (by kernel_rfl) (by kernel_rfl) (by kernel_rfl) (fun _ _ _ h => h) (Or.inl ⟨by rfl, ?_⟩) (by assumption) ?_
          rotate_left
          · (intro w hSw; (try dsimp only at hSw); go_simp) <;> with_reducible rfl
          try simp only [Act.put, List.setIfInBounds_toArray, List.set_cons_zero, List.set_cons_succ]
          refine wpAnyH_take (i := 9) (oi := { dst := some 47, op := Op.move (Operand.tmp 5), type := 98, pos := _, after := #[], guard := none }) (v := ?_) rfl (by kernel_rfl) (by kernel_rfl) (by kernel_rfl) (fun _ _ _ h => h) (Or.inl ⟨by rfl, ?_⟩) (by assumption) ?_
          rotate_left
          · (intro w hSw; (try dsimp only at hSw); go_simp) <;> with_reducible rfl
          try simp only [Act.put, List.setIfInBounds_toArray, List.set_cons_zero, List.set_cons_succ]
          refine wpAnyH_take (i := 10) (oi := { dst := some 48, op := Op.nilCheck (Operand.tmp 47), type := 0, pos := _, after := _, guard := none }) (v := ?_) rfl (by kernel_rfl) (by kernel_rfl) (by kernel_rfl) (fun _ _ _ h => h) (Or.inl ⟨by rfl, ?_⟩) (by assumption) ?_
          rotate_left
          · (intro w hSw; (try dsimp only at hSw); go_simp) <;> with_reducible rfl
          try simp only [Act.put, List.setIfInBounds_toArray, List.set_cons_zero, List.set_cons_succ]
          refine wpAnyH_take (i := 11) (oi := { dst := some 49, op := Op.fieldAddr 97 (Operand.tmp 48) 2, type := 0, pos := _, after := _, guard := none }) (v := ?_) rfl (by kernel_rfl) (by kernel_rfl) (by kernel_rfl) (fun _ _ _ h => h) (Or.inl ⟨by rfl, ?_⟩) (by assumption) ?_
          rotate_left
          · (intro w hSw; (try dsimp only at hSw); go_simp) <;> with_reducible rfl
          try simp only [Act.put, List.setIfInBounds_toArray, List.set_cons_zero, List.set_cons_succ]
          refine wpAnyH_take (i := 12) (oi := { dst := some 50, op := Op.load 3 (Operand.tmp 49), type := 3, pos := _, after := _, guard := none }) (v := ?_) rfl (by kernel_rfl) (by kernel_rfl) (by kernel_rfl) (fun _ _ _ h => h) (Or.inl ⟨by rfl, ?_⟩) (by assumption) ?_
          rotate_left
          · (intro w hSw; (try dsimp only at hSw); go_simp) <;> with_reducible rfl
          try simp only [Act.put, List.setIfInBounds_toArray, List.set_cons_zero, List.set_cons_succ]
          refine wpAnyH_take (i := 13) (oi := { dst := some 51, op := Op.binOp BinOp.sub 3 (Operand.tmp 50) (Operand.const (Value.int IntKind.i64 1)) 3, type := 3, pos := _, after := _, guard := none }) (v := ?_) rfl (by kernel_rfl) (by kernel_rfl) (by kernel_rfl) (fun _ _ _ h => h) (Or.inl ⟨by rfl, ?_⟩) (by assumption) ?_
          rotate_left
          · (intro w hSw; (try dsimp only at hSw); go_simp) <;> with_reducible rfl
          try simp only [Act.put, List.setIfInBounds_toArray, List.set_cons_zero, List.set_cons_succ]
          refine wpAnyH_ready (rs := [14]) (by kernel_rfl) (by simp) ?_
          refine AllReadyH.cons (o := { dst := some 52, op := Op.call { callee := Callee.value (Operand.func 56), args := #[Operand.tmp 38, Operand.tmp 39, Operand.tmp 46, Operand.tmp 51], argTypes := #[68, 98, 98, 3] }, type := 4, pos := _, after := _, guard := none }) rfl (fun K hK => ?_) AllReadyH.nil
          go_simp
          go_at_call 56
          refine Calls.mono HLd.out ?_
          rintro ex W6 ⟨b, rfl, hb6, hno, hyes⟩
          have HB6 : Hid (Below B w W6) := HS5.out.2.trans hb6
          have HNY : Hid (((spOf l dss A ah).ok v2.D v2.bs x = false → b = false ∧ Sm W6 B Q oa m oc A gh hc ah gv vc n (L2.set d { v2 with x := x1 }) r N M) ∧ ((spOf l dss A ah).ok v2.D v2.bs x = true → b = (!has M (kl (v2.D ||| 2 ^ x) ((spOf l dss A ah).eff x v2.bs))) ∧ Sm W6 B Q oa m oc A gh hc ah gv vc n ((L2.set d { v2 with x := x1 }).set d1 { bl with D := v2.D ||| 2 ^ x, x := 0, bs := (spOf l dss A ah).eff x v2.bs }) r N M)) := ⟨hno, hyes⟩
          have HSx : Hid (∃ L3, Sm W6 B Q oa m oc A gh hc ah gv vc n L3 r N M ∧ L3[d]? = some { v2 with x := x1 }) := by
            cases hok : (spOf l dss A ah).ok v2.D v2.bs x with
            | false => exact ⟨_, (hno hok).2, HL3.out⟩
            | true => exact ⟨_, (hyes hok).2, by rw [List.getElem?_set_ne (by have := HD1.out; omega)]; exact HL3.out⟩
          clear hb6 hno hyes
          try go_simp
          clear hHeld
          refine hK.out _ _ ?_ (fun hHeld => ?_)
          · (obtain ⟨L3, h3, h4⟩ := HSx.out; exact ⟨h3.lvc h4 (c := 2) (by decide), by have h5 := h3.q3; rw [HM1.out] at h5; exact h5⟩)
          clear hK K
          try simp only [Act.put, List.setIfInBounds_toArray, List.set_cons_zero, List.set_cons_succ]
          refine wpAnyH_done (by kernel_rfl) ?_ _
          clear hHeld
          have HMa : Hid (muS m (lvX W6 gv) d + (m + 2) ^ (m - d) = muS m (lvX wr gv) d ∧ lvX W6 gv d = x1) := by
            obtain ⟨L3, h3, h4⟩ := HSx.out
            have hg : lvX W6 gv d = x1 := h3.lvX h4
            refine ⟨muS_inc (fun j hj => ?_) (by rw [HLx.out]; omega) (by rw [hg, HLx.out]; exact HX1.out.symm), hg⟩
            cases hok : (spOf l dss A ah).ok v2.D v2.bs x with
            | false => exact (lvX_eq HJ.out.1 (HNY.out.1 hok).2 (by have := HRm.out; omega) (by rw [List.getElem?_set_ne (by omega)])).symm
            | true => exact (lvX_eq HJ.out.1 (HNY.out.2 hok).2 (by have := HRm.out; omega) (by rw [List.getElem?_set_ne (by have := HD1.out; omega), List.getElem?_set_ne (by omega)])).symm
          have HIn : Hid (∀ L3, Sm W6 B Q oa m oc A gh hc ah gv vc n L3 r N M → Inv (spOf l dss A ah) first ks L3 → L3[d]? = some { v2 with x := x1 } → ((spOf l dss A ah).ok (mask ks) (bsAt (spOf l dss A ah) first ks) x = true → (spOf l dss A ah).Dead (mask ks ||| 2 ^ x) ((spOf l dss A ah).eff x (bsAt (spOf l dss A ah) first ks))) → Sm W6 B Q oa m oc A gh hc ah gv vc n L3 r N M ∧ Inv (spOf l dss A ah) first ks L3 ∧ (∃ v, L3[d]? = some v ∧ v.x ≤ m ∧ v.D = D ∧ v.bs = bsAt (spOf l dss A ah) first ks ∧ Tried (spOf l dss A ah) (mask ks) (bsAt (spOf l dss A ah) first ks) v.x) ∧ muS m (lvX W6 gv) d ≤ mu0 ∧ Below B w W6) := fun L3 h1 h2 h3 h4 => ⟨h1, h2, ⟨_, h3, by show x1 ≤ m; have := HX1.out; omega, HV2.out.2.2.1, HV2.out.2.2.2.1, by show Tried _ _ _ x1; rw [← HX1.out]; exact HV2.out.2.2.2.2.succ h4⟩, by have h5 := HMa.out.1; have h6 := HJ.out.2.2.2.1; omega, HB6.out⟩
          have HOk : Hid ((spOf l dss A ah).ok v2.D v2.bs x = (spOf l dss A ah).ok (mask ks) (bsAt (spOf l dss A ah) first ks) x ∧ v2.D = mask ks) := by
            have h1 : v2.D = mask ks := by rw [HV2.out.2.2.1, HIm.out.1]
            exact ⟨by rw [h1, HV2.out.2.2.2.1], h1⟩
          have HMs : Hid (m + 1 - lvX W6 gv d < m + 1 - lvX wr gv d) := by show _ < _; rw [HMa.out.2, HLx.out]; have := HX1.out; omega
          cases hok : (spOf l dss A ah).ok v2.D v2.bs x with
          | false =>
            obtain ⟨rfl, hS6⟩ := HNY.out.1 hok
            have HRel : Hid _ := HIn.out _ hS6 HIv.out HL3.out (fun h => by rw [← HOk.out.1, hok] at h; cases h)
            clear hS6 hok
            go_wp2
            go_roundw
            case rel => exact ⟨_, rfl, HRel.out⟩
            case measure => exact HMs.out
          | true =>
            obtain ⟨hb, hS6⟩ := HNY.out.2 hok
            have hLd : ((L2.set d { v2 with x := x1 }).set d1 { bl with D := v2.D ||| 2 ^ x, x := 0, bs := (spOf l dss A ah).eff x v2.bs })[d]? = some { v2 with x := x1 } := by rw [List.getElem?_set_ne (by have := HD1.out; omega)]; exact HL3.out
            have hLn : ((L2.set d { v2 with x := x1 }).set d1 { bl with D := v2.D ||| 2 ^ x, x := 0, bs := (spOf l dss A ah).eff x v2.bs })[d1]? = some { bl with D := v2.D ||| 2 ^ x, x := 0, bs := (spOf l dss A ah).eff x v2.bs } := by
              have h1 := HBl.out
              rw [HD1.out] at h1
              exact List.getElem?_set_self (List.getElem?_eq_some_iff.1 h1).1
            have h65 : v2.D ||| 2 ^ x < 65536 := Nat.or_lt_two_pow (n := 16) (by rw [HV2.out.2.2.1]; exact hDl) (Nat.pow_lt_pow_right (by decide) (by omega))
            cases b with
            | false =>
              have hmem : has M (kl (v2.D ||| 2 ^ x) ((spOf l dss A ah).eff x v2.bs)) = true := by simpa using hb.symm
              have hdead := HMu.out.2.2 _ _ h65 (hS6.now _ _ hLn).2.1 (hS6.now _ _ hLn).2.2 hmem
              have HRel : Hid _ := HIn.out _ hS6 (HIv.out.setn (by rw [HD.out]; have := HD1.out; omega)) hLd (fun _ => by rw [HOk.out.2, HV2.out.2.2.2.1] at hdead; exact hdead)
              clear hS6 hok hb hmem hdead hLd hLn
              go_wp2
              go_roundw
              case rel => exact ⟨_, rfl, HRel.out⟩
              case measure => exact HMs.out
            | true =>
              have hok' := hok
              rw [HOk.out.1] at hok'
              have hml16 : mask ks < 65536 := by rw [HIm.out.1]; exact hDl
              have hInv : Inv (spOf l dss A ah) first (ks ++ [x]) ((L2.set d { v2 with x := x1 }).set d1 { bl with D := v2.D ||| 2 ^ x, x := 0, bs := (spOf l dss A ah).eff x v2.bs }) := by
                refine HIv.out.push HSf.out (by show x < l.length; rw [HSp.out.1]; exact hlt) hok' (ok_new hml16 (by omega) hok') HV2.out.2.2.2.2 (fun j hj => ?_) ?_ ?_
                · rw [HD.out] at hj
                  rw [List.getElem?_set_ne (by have := HD1.out; omega)]
                · rw [HD.out]
                  exact ⟨_, hLd, HOk.out.2, HV2.out.2.2.2.1, HX1.out.symm⟩
                · rw [HD.out, HD1.out]
                  exact ⟨_, hLn, by show v2.D ||| 2 ^ x = _; rw [HOk.out.2], by show (spOf l dss A ah).eff x v2.bs = _; rw [HV2.out.2.2.2.1]⟩
              have hlen : (ks ++ [x]).length = d1 := by rw [List.length_append, HD.out]; exact HD1.out
              have hmu : muS m (lvX W6 gv) d1 < mu0 := by
                rw [← HD1.out]
                have h1 := muS_down (f := lvX W6 gv) HRm.out (by rw [HD1.out]; exact hS6.lvX hLn)
                have h2 := HMa.out.1
                have h3 := HJ.out.2.2.2.1
                omega
              have HRel : Hid (∃ (ks : List Nat) (L : List Lv) (N : Nat) (M : DataW Unit), Value.int .i64 (d1 : Int) = .int .i64 (ks.length : Int) ∧ Hid (Sm W6 B Q oa m oc A gh hc ah gv vc n L r N M ∧ Inv (spOf l dss A ah) first ks L ∧ (∃ v, L[ks.length]? = some v ∧ v.x ≤ m ∧ Tried (spOf l dss A ah) (mask ks) (bsAt (spOf l dss A ah) first ks) v.x) ∧ NW (spOf l dss A ah) n M ∧ N + muS m (lvX W6 gv) ks.length ≤ C ∧ Below B w W6)) :=
                ⟨ks ++ [x], _, N, M, by rw [hlen], hS6, hInv, ⟨_, by rw [hlen]; exact hLn, Nat.zero_le _, fun i hi => absurd hi (Nat.not_lt_zero _)⟩, HMu.out.2.2, by rw [hlen]; have := HMu.out.2.1; omega, HB6.out⟩
              have HMq : Hid (muS m (lvX W6 gv) d1 < mu0) := hmu
              clear hS6 hok hb hLd hLn hok' hInv hlen hmu hml16 h65
              go_wp2
              refine ⟨HRel.out, ?_⟩
              show muS m (lvX W6 gv) d1 < muS m (lvX _ gv) d
              rw [HMu.out.1]
              exact HMq.out
        · have n9 : decide ((x : Int) < (m : Int)) = false := decide_eq_false (by omega)
          have hxm2 : x = m := by omega
          have HDe : Hid ((spOf l dss A ah).Dead (mask ks) (bsAt (spOf l dss A ah) first ks)) := SP.dead_of HSf.out (fun k hk hok => HV2.out.2.2.2.2 k (by have h1 : k < l.length := hk; rw [HSp.out.1] at h1; omega) hok)
          have HXm : Hid (x = m) := hxm2
          clear hv2 hxx hD2 hb2 ht2 hx2
          go_wp2_with fail
          refine wp_region_held_drew (S := (fun w' => w'.cell? ⟨gv, d * 3 + 2, none⟩ = some (.int .i64 (x : Int)) ∧ w'.cell? ⟨Q, 0, none⟩ = some (.slice oa m oc))) (by kernel_rfl) ?_ (fun hHeld => ?_)
          · exact HC4.out _ HBw.out
          refine wpAnyH_take (i := 0) (oi := { dst := some 21, op := Op.move (Operand.tmp 5), type := 98, pos := _, after := #[], guard := none }) (v := ?_) rfl (by kernel_rfl) (by kernel_rfl) (by kernel_rfl) (fun _ _ _ h => h) (Or.inl ⟨by rfl, ?_⟩) (by assumption) ?_
          rotate_left
          · (intro w hSw; (try dsimp only at hSw); go_simp) <;> with_reducible rfl
          try simp only [Act.put, List.setIfInBounds_toArray, List.set_cons_zero, List.set_cons_succ]
          refine wpAnyH_take (i := 1) (oi := { dst := some 22, op := Op.nilCheck (Operand.tmp 21), type := 0, pos := _, after := _, guard := none }) (v := ?_) rfl (by kernel_rfl) (by kernel_rfl) (by kernel_rfl) (fun _ _ _ h => h) (Or.inl ⟨by rfl, ?_⟩) (by assumption) ?_
          rotate_left
          · (intro w hSw; (try dsimp only at hSw); go_simp) <;> with_reducible rfl
          try simp only [Act.put, List.setIfInBounds_toArray, List.set_cons_zero, List.set_cons_succ]
          refine wpAnyH_take (i := 2) (oi := { dst := some 23, op := Op.fieldAddr 97 (Operand.tmp 22) 2, type := 0, pos := _, after := _, guard := none }) (v := ?_) rfl (by kernel_rfl) (by kernel_rfl) (by kernel_rfl) (fun _ _ _ h => h) (Or.inl ⟨by rfl, ?_⟩) (by assumption) ?_
          rotate_left
          · (intro w hSw; (try dsimp only at hSw); go_simp) <;> with_reducible rfl
          try simp only [Act.put, List.setIfInBounds_toArray, List.set_cons_zero, List.set_cons_succ]
          refine wpAnyH_take (i := 3) (oi := { dst := some 24, op := Op.load 3 (Operand.tmp 23), type := 3, pos := _, after := _, guard := none }) (v := ?_) rfl (by kernel_rfl) (by kernel_rfl) (by kernel_rfl) (fun _ _ _ h => h) (Or.inl ⟨by rfl, ?_⟩) (by assumption) ?_
          rotate_left
          · (intro w hSw; (try dsimp only at hSw); go_simp) <;> with_reducible rfl
          try simp only [Act.put, List.setIfInBounds_toArray, List.set_cons_zero, List.set_cons_succ]
          refine wpAnyH_take (i := 4) (oi := { dst := some 25, op := Op.move (Operand.tmp 0), type := 68, pos := _, after := #[], guard := none }) (v := ?_) rfl (by kernel_rfl) (by kernel_rfl) (by kernel_rfl) (fun _ _ _ h => h) (Or.inl ⟨by rfl, ?_⟩) (by assumption) ?_
          rotate_left
          · (intro w hSw; (try dsimp only at hSw); go_simp) <;> with_reducible rfl
          try simp only [Act.put, List.setIfInBounds_toArray, List.set_cons_zero, List.set_cons_succ]
          refine wpAnyH_take (i := 5) (oi := { dst := some 26, op := Op.nilCheck (Operand.tmp 25), type := 0, pos := _, after := _, guard := none }) (v := ?_) rfl (by kernel_rfl) (by kernel_rfl) (by kernel_rfl) (fun _ _ _ h => h) (Or.inl ⟨by rfl, ?_⟩) (by assumption) ?_
          rotate_left
          · (intro w hSw; (try dsimp only at hSw); go_simp) <;> with_reducible rfl
          try simp only [Act.put, List.setIfInBounds_toArray, List.set_cons_zero, List.set_cons_succ]
          refine wpAnyH_take (i := 6) (oi := { dst := some 27, op := Op.fieldAddr 94 (Operand.tmp 26) 0, type := 0, pos := _, after := _, guard := none }) (v := ?_) rfl (by kernel_rfl) (by kernel_rfl) (by kernel_rfl) (fun _ _ _ h => h) (Or.inl ⟨by rfl, ?_⟩) (by assumption) ?_
          rotate_left
          · (intro w hSw; (try dsimp only at hSw); go_simp) <;> with_reducible rfl
          try simp only [Act.put, List.setIfInBounds_toArray, List.set_cons_zero, List.set_cons_succ]
          refine wpAnyH_take (i := 7) (oi := { dst := some 28, op := Op.load 23 (Operand.tmp 27), type := 23, pos := _, after := _, guard := none }) (v := ?_) rfl (by kernel_rfl) (by kernel_rfl) (by kernel_rfl) (fun _ _ _ h => h) (Or.inl ⟨by rfl, ?_⟩) (by assumption) ?_
          rotate_left
          · (intro w hSw; (try dsimp only at hSw); go_simp) <;> with_reducible rfl
          try simp only [Act.put, List.setIfInBounds_toArray, List.set_cons_zero, List.set_cons_succ]
          refine wpAnyH_take (i := 8) (oi := { dst := some 29, op := Op.call { callee := Callee.builtin Builtin.len, args := #[Operand.tmp 28], argTypes := #[23] }, type := 3, pos := _, after := _, guard := none }) (v := ?_) rfl (by kernel_rfl) (by kernel_rfl) (by kernel_rfl) (fun _ _ _ h => h) (Or.inl ⟨by rfl, ?_⟩) (by assumption) ?_
          rotate_left
          · (intro w hSw; (try dsimp only at hSw); go_simp) <;> with_reducible rfl
          try simp only [Act.put, List.setIfInBounds_toArray, List.set_cons_zero, List.set_cons_succ]
          refine wpAnyH_take (i := 9) (oi := { dst := some 30, op := Op.binOp BinOp.lss 3 (Operand.tmp 24) (Operand.tmp 29) 3, type := 4, pos := _, after := _, guard := none }) (v := ?_) rfl (by kernel_rfl) (by kernel_rfl) (by kernel_rfl) (fun _ _ _ h => h) (Or.inl ⟨by rfl, ?_⟩) (by assumption) ?_
          rotate_left
          · (intro w hSw; (try dsimp only at hSw); go_simp) <;> with_reducible rfl
          try simp only [Act.put, List.setIfInBounds_toArray, List.set_cons_zero, List.set_cons_succ]
          refine wpAnyH_done (by kernel_rfl) ?_ _
          clear hHeld
          by_cases h0 : d = 0
          · have n8 : ((d : Int) == 0) = true := by rw [h0]; rfl
            have HDz : Hid ((spOf l dss A ah).Dead 0 first) := by
              have h1 : ks = [] := List.eq_nil_of_length_eq_zero (by rw [HD.out]; exact h0)
              have h2 := HDe.out
              rw [h1] at h2
              exact h2
            have HBz : Hid (Below B w wr.drew) := HJ.out.2.2.2.2.trans ⟨rfl, rfl, rfl, Nat.le_refl _, fun _ _ => rfl⟩
            subst h0
            go_wp2
            rw [Exit.noGoto_ret]
            go_ret2
            exact ⟨HBz.out, .inr ⟨rfl, HDz.out⟩⟩
          · have n8 : ((d : Int) == 0) = false := by rw [beq_eq_false_iff_ne]; omega
            obtain ⟨ks', k, hks⟩ : ∃ ks' k, ks = ks' ++ [k] := by
              rcases List.eq_nil_or_concat ks with h1 | ⟨a, b, h1⟩
              · exfalso; apply h0; rw [← HD.out, h1]; rfl
              · exact ⟨a, b, by rw [h1, List.concat_eq_append]⟩
            subst hks
            obtain ⟨e, hde⟩ : ∃ e, d = e + 1 := ⟨d - 1, by omega⟩
            have HDe1 : Hid (d = e + 1 ∧ ks'.length = e) := ⟨hde, by have := HD.out; rw [List.length_append] at this; simp at this; omega⟩
            have hda : IntKind.i64.wrap ((d : Int) - 1) = (e : Int) := by rw [IntKind.wrap_i64]; omega
            have hN : N < maxLen := by have h1 := HMu.out.2.1; have h2 := HCm.out; omega
            have HSd : Hid (Sm wr.drew.drew B Q oa m oc A gh hc ah gv vc n L2 r N M) := (HJ.out.1.later HBw.out).later ⟨rfl, rfl, rfl, Nat.le_refl _, fun _ _ => rfl⟩
            have hnow := HSd.out.now d v2 HV2.out.1
            obtain ⟨U, hupd, hSU, hgU⟩ := HSd.out.insert hN (D := D) (bs := v2.bs) hDl (by rw [hnow.2.1]; exact hns)
            obtain ⟨va, hva⟩ : ∃ va, v2.a = va := ⟨_, rfl⟩
            obtain ⟨vcc, hvc⟩ : ∃ vcc, v2.c = vcc := ⟨_, rfl⟩
            obtain ⟨bst, hbst⟩ : ∃ bst, bstr v2.bs = bst := ⟨_, rfl⟩
            have HC10 : Hid (∀ w' : World, (∃ N' M', Sm w' B Q oa m oc A gh hc ah gv vc n L2 r N' M') → w'.cell? ⟨Q, 4, none⟩ = some (.map (some r)) ∧ w'.cell? ⟨gv, d * 3, none⟩ = some (.int .u16 (D : Int)) ∧ w'.cell? ⟨gv, d * 3 + 1, none⟩ = some (.slice va n vcc) ∧ (convert 59 9 (.slice va n vcc)).run Try.prog w' = .ok (.string bst) w') := fun w' ⟨N', M', h1⟩ => ⟨h1.q4, by rw [← HV2.out.2.2.1]; exact h1.lvc HV2.out.1 (c := 0) (by decide), by rw [← hva, ← hvc]; exact h1.lvc HV2.out.1 (c := 1) (by decide), by rw [← hva, ← hvc, ← hbst]; exact conv_dev (h1.brow hns HV2.out.1) (h1.now d v2 HV2.out.1).2.1⟩
            obtain ⟨hInv, u, hu1, hu2, hu3, hu4⟩ := HJ.out.2.1.pop HDe.out
            have hmu : muS m (lvX U gv) e < mu0 := by
              have h1 : muS m (lvX U gv) e = muS m (lvX wr gv) e := muS_same (fun j hj => lvX_eq HJ.out.1 hSU (by omega) rfl)
              have h2 := muS_up (m := m) (f := lvX wr gv) (d := e) (by rw [← HDe1.out.1, HLx.out, HXm.out]; exact Nat.le_refl _)
              have h3 := HJ.out.2.2.2.1
              rw [HDe1.out.1] at h3
              omega
            have HRel : Hid (∃ (ks : List Nat) (L : List Lv) (N : Nat) (M : DataW Unit), Value.int .i64 (e : Int) = .int .i64 (ks.length : Int) ∧ Hid (Sm U B Q oa m oc A gh hc ah gv vc n L r N M ∧ Inv (spOf l dss A ah) first ks L ∧ (∃ v, L[ks.length]? = some v ∧ v.x ≤ m ∧ Tried (spOf l dss A ah) (mask ks) (bsAt (spOf l dss A ah) first ks) v.x) ∧ NW (spOf l dss A ah) n M ∧ N + muS m (lvX U gv) ks.length ≤ C ∧ Below B w U)) := by
              refine ⟨ks', L2, N + 1, _, by rw [HDe1.out.2], hSU, hInv, ⟨u, hu1, by have h1 : k < l.length := hu3; rw [HSp.out.1] at h1; omega, by rw [hu2]; exact hu4⟩, HMu.out.2.2.put hns hDl hnow.2.1 hnow.2.2 (by rw [← HIm.out.1, HV2.out.2.2.2.1]; exact HDe.out), by rw [HDe1.out.2]; have := HMu.out.2.1; omega, ?_⟩
              exact Below.grown (w := wr.drew.drew) (HJ.out.2.2.2.2.trans ⟨rfl, rfl, rfl, Nat.le_refl _, fun _ _ => rfl⟩) hgU (Nat.le_trans HBW.out HJ.out.2.2.2.2.size) (fun g e2 => by cases e2; exact HJ.out.1.hr)
            have HSU : Hid (Sm U B Q oa m oc A gh hc ah gv vc n L2 r (N + 1) (M.put (kl D v2.bs) (.lit (.bool true)))) := hSU
            have HMq : Hid (muS m (lvX U gv) e < mu0) := hmu
            rw [hbst] at hupd
            have hupd2 : (Instr.mapUpdate 89 (.map (some r)) (.agg #[.int .u16 (D : Int), .string bst]) (.agg #[])).run Try.prog wr.drew.drew = .ok () U := hupd
            clear hSU hgU hnow hInv hu1 hu2 hu3 hu4 hmu hva hvc hbst hN hde hupd h0
            go_wp2_with fail
            refine wp_region_held_drew (S := (fun w' => w'.cell? ⟨Q, 4, none⟩ = some (.map (some r)) ∧ w'.cell? ⟨gv, d * 3, none⟩ = some (.int .u16 (D : Int)) ∧ w'.cell? ⟨gv, d * 3 + 1, none⟩ = some (.slice va n vcc) ∧ (convert 59 9 (.slice va n vcc)).run Try.prog w' = .ok (.string bst) w')) (by kernel_rfl) ?_ (fun hHeld => ?_)
            · exact HC10.out _ ⟨_, _, HSd.out⟩
            refine wpAnyH_take (i := 0) (oi := { dst := some 57, op := Op.move (Operand.tmp 0), type := 68, pos := _, after := #[], guard := none }) (v := ?_) rfl (by kernel_rfl) (by kernel_rfl) (by kernel_rfl) (fun _ _ _ h => h) (Or.inl ⟨by rfl, ?_⟩) (by assumption) ?_
            rotate_left
            · (intro w hSw; (try dsimp only at hSw); go_simp) <;> with_reducible rfl
            try simp only [Act.put, List.setIfInBounds_toArray, List.set_cons_zero, List.set_cons_succ]
            refine wpAnyH_take (i := 1) (oi := { dst := some 58, op := Op.nilCheck (Operand.tmp 57), type := 0, pos := _, after := _, guard := none }) (v := ?_) rfl (by kernel_rfl) (by kernel_rfl) (by kernel_rfl) (fun _ _ _ h => h) (Or.inl ⟨by rfl, ?_⟩) (by assumption) ?_
            rotate_left
            · (intro w hSw; (try dsimp only at hSw); go_simp) <;> with_reducible rfl
            try simp only [Act.put, List.setIfInBounds_toArray, List.set_cons_zero, List.set_cons_succ]
            refine wpAnyH_take (i := 2) (oi := { dst := some 59, op := Op.fieldAddr 94 (Operand.tmp 58) 4, type := 0, pos := _, after := _, guard := none }) (v := ?_) rfl (by kernel_rfl) (by kernel_rfl) (by kernel_rfl) (fun _ _ _ h => h) (Or.inl ⟨by rfl, ?_⟩) (by assumption) ?_
            rotate_left
            · (intro w hSw; (try dsimp only at hSw); go_simp) <;> with_reducible rfl
            try simp only [Act.put, List.setIfInBounds_toArray, List.set_cons_zero, List.set_cons_succ]
            refine wpAnyH_take (i := 3) (oi := { dst := some 60, op := Op.load 89 (Operand.tmp 59), type := 89, pos := _, after := _, guard := none }) (v := ?_) rfl (by kernel_rfl) (by kernel_rfl) (by kernel_rfl) (fun _ _ _ h => h) (Or.inl ⟨by rfl, ?_⟩) (by assumption) ?_
            rotate_left
            · (intro w hSw; (try dsimp only at hSw); go_simp) <;> with_reducible rfl
            try simp only [Act.put, List.setIfInBounds_toArray, List.set_cons_zero, List.set_cons_succ]
            refine wpAnyH_take (i := 4) (oi := { dst := some 61, op := Op.move (Operand.tmp 5), type := 98, pos := _, after := #[], guard := none }) (v := ?_) rfl (by kernel_rfl) (by kernel_rfl) (by kernel_rfl) (fun _ _ _ h => h) (Or.inl ⟨by rfl, ?_⟩) (by assumption) ?_
            rotate_left
            · (intro w hSw; (try dsimp only at hSw); go_simp) <;> with_reducible rfl
            try simp only [Act.put, List.setIfInBounds_toArray, List.set_cons_zero, List.set_cons_succ]
            refine wpAnyH_take (i := 5) (oi := { dst := some 62, op := Op.nilCheck (Operand.tmp 61), type := 0, pos := _, after := _, guard := none }) (v := ?_) rfl (by kernel_rfl) (by kernel_rfl) (by kernel_rfl) (fun _ _ _ h => h) (Or.inl ⟨by rfl, ?_⟩) (by assumption) ?_
            rotate_left
            · (intro w hSw; (try dsimp only at hSw); go_simp) <;> with_reducible rfl
            try simp only [Act.put, List.setIfInBounds_toArray, List.set_cons_zero, List.set_cons_succ]
            refine wpAnyH_take (i := 6) (oi := { dst := some 63, op := Op.fieldAddr 97 (Operand.tmp 62) 0, type := 0, pos := _, after := _, guard := none }) (v := ?_) rfl (by kernel_rfl) (by kernel_rfl) (by kernel_rfl) (fun _ _ _ h => h) (Or.inl ⟨by rfl, ?_⟩) (by assumption) ?_
            rotate_left
            · (intro w hSw; (try dsimp only at hSw); go_simp) <;> with_reducible rfl
            try simp only [Act.put, List.setIfInBounds_toArray, List.set_cons_zero, List.set_cons_succ]
            refine wpAnyH_take (i := 7) (oi := { dst := some 64, op := Op.load 91 (Operand.tmp 63), type := 91, pos := _, after := _, guard := none }) (v := ?_) rfl (by kernel_rfl) (by kernel_rfl) (by kernel_rfl) (fun _ _ _ h => h) (Or.inl ⟨by rfl, ?_⟩) (by assumption) ?_
            rotate_left
            · (intro w hSw; (try dsimp only at hSw); go_simp) <;> with_reducible rfl
            try simp only [Act.put, List.setIfInBounds_toArray, List.set_cons_zero, List.set_cons_succ]
            refine wpAnyH_take (i := 8) (oi := { dst := some 65, op := Op.move (Operand.tmp 5), type := 98, pos := _, after := #[], guard := none }) (v := ?_) rfl (by kernel_rfl) (by kernel_rfl) (by kernel_rfl) (fun _ _ _ h => h) (Or.inl ⟨by rfl, ?_⟩) (by assumption) ?_
            rotate_left
            · (intro w hSw; (try dsimp only at hSw); go_simp) <;> with_reducible rfl
            try simp only [Act.put, List.setIfInBounds_toArray, List.set_cons_zero, List.set_cons_succ]
            refine wpAnyH_take (i := 9) (oi := { dst := some 66, op := Op.nilCheck (Operand.tmp 65), type := 0, pos := _, after := _, guard := none }) (v := ?_) rfl (by kernel_rfl) (by kernel_rfl) (by kernel_rfl) (fun _ _ _ h => h) (Or.inl ⟨by rfl, ?_⟩) (by assumption) ?_
            rotate_left
            · (intro w hSw; (try dsimp only at hSw); go_simp) <;> with_reducible rfl
            try simp only [Act.put, List.setIfInBounds_toArray, List.set_cons_zero, List.set_cons_succ]
            refine wpAnyH_take (i := 10) (oi := { dst := some 67, op := Op.fieldAddr 97 (Operand.tmp 66) 1, type := 0, pos := _, after := _, guard := none }) (v := ?_) rfl (by kernel_rfl) (by kernel_rfl) (by kernel_rfl) (fun _ _ _ h => h) (Or.inl ⟨by rfl, ?_⟩) (by assumption) ?_
            rotate_left
            · (intro w hSw; (try dsimp only at hSw); go_simp) <;> with_reducible rfl
            try simp only [Act.put, List.setIfInBounds_toArray, List.set_cons_zero, List.set_cons_succ]
            refine wpAnyH_take (i := 11) (oi := { dst := some 68, op := Op.load 59 (Operand.tmp 67), type := 59, pos := _, after := _, guard := none }) (v := ?_) rfl (by kernel_rfl) (by kernel_rfl) (by kernel_rfl) (fun _ _ _ h => h) (Or.inl ⟨by rfl, ?_⟩) (by assumption) ?_
            rotate_left
            · (intro w hSw; (try dsimp only at hSw); go_simp) <;> with_reducible rfl
            try simp only [Act.put, List.setIfInBounds_toArray, List.set_cons_zero, List.set_cons_succ]
            refine wpAnyH_take (i := 12) (oi := { dst := some 69, op := Op.convert 59 9 (Operand.tmp 68), type := 9, pos := _, after := _, guard := none }) (v := ?_) rfl (by kernel_rfl) (by kernel_rfl) (by kernel_rfl) (fun _ _ _ h => h) (Or.inl ⟨by rfl, ?_⟩) (by assumption) ?_
            rotate_left
            · (intro w hSw; (try dsimp only at hSw); go_simp) <;> with_reducible rfl
            try simp only [Act.put, List.setIfInBounds_toArray, List.set_cons_zero, List.set_cons_succ]
            refine wpAnyH_take (i := 13) (oi := { dst := some 70, op := Op.build 103 #[(0, Operand.tmp 64), (1, Operand.tmp 69)], type := 103, pos := _, after := _, guard := none }) (v := ?_) rfl (by kernel_rfl) (by kernel_rfl) (by kernel_rfl) (fun _ _ _ h => h) (Or.inl ⟨by rfl, ?_⟩) (by assumption) ?_
            rotate_left
            · (intro w hSw; (try dsimp only at hSw); go_simp) <;> with_reducible rfl
            try simp only [Act.put, List.setIfInBounds_toArray, List.set_cons_zero, List.set_cons_succ]
            refine wpAnyH_take (i := 14) (oi := { dst := some 71, op := Op.build 101 #[], type := 101, pos := _, after := #[], guard := none }) (v := ?_) rfl (by kernel_rfl) (by kernel_rfl) (by kernel_rfl) (fun _ _ _ h => h) (Or.inl ⟨by rfl, ?_⟩) (by assumption) ?_
            rotate_left
            · (intro w hSw; (try dsimp only at hSw); go_simp) <;> with_reducible rfl
            try simp only [Act.put, List.setIfInBounds_toArray, List.set_cons_zero, List.set_cons_succ]
            refine wpAnyH_ready (rs := [15]) (by kernel_rfl) (by simp) ?_
            refine AllReadyH.cons (o := { dst := none, op := Op.mapUpdate 89 (Operand.tmp 60) (Operand.tmp 70) (Operand.tmp 71), type := 0, pos := _, after := _, guard := none }) rfl (fun K hK => ?_) AllReadyH.nil
            go_simp
            skip
            try go_simp
            clear hHeld
            refine hK.out _ _ ?_ (fun hHeld => ?_)
            · exact HC10.out _ ⟨_, _, HSU.out⟩
            clear hK K
            try simp only [Act.put, List.setIfInBounds_toArray, List.set_cons_zero, List.set_cons_succ]
            refine wpAnyH_done (by kernel_rfl) ?_ _
            clear hHeld
            go_wp2
            refine ⟨HRel.out, ?_⟩
            show muS m (lvX U gv) e < muS m (lvX _ gv) d
            rw [HMu.out.1]
            exact HMq.out
end Go.Proofs.Ytjkoambfecmglaa
