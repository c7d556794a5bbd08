import Derived.Test.YtpchllepboolhaazGO
namespace Go.Proofs.Ytpchllepboolhaa.D
open Go.RowKit Go.Proofs.Ytpchllepboolhaa.I
attribute [local go_sem] Oper.semAt_some
attribute [local go_sem ↓] Go.wp_at_zero Go.wp_at_succ
set_option linter.unusedVariables false
set_option linter.unusedSimpArgs false
set_option maxRecDepth 100000

/-- what a script leaves -/
def pl (l : List Ac) (A : List It) : List It := l.foldl (fun A x => stp x.1 x.2 A) A
theorem pl_snoc (l : List Ac) (x : Ac) (A : List It) : pl (l ++ [x]) A = stp x.1 x.2 (pl l A) := by simp [pl]
theorem take_ac {l : List Ac} {k : Nat} {x : Ac} (h : l[k]? = some x) : l.take (k + 1) = l.take k ++ [x] := by rw [List.take_add_one, h]; rfl
theorem stp_keys {kind k : Int} {A : List It} : ∀ x ∈ stp kind k A, x.1 = k ∨ ∃ y ∈ A, y.1 = x.1 := by
  have h' : ∀ x ∈ A, x.1 = k ∨ ∃ y ∈ A, y.1 = x.1 := fun x hx => .inr ⟨x, hx, rfl⟩
  rcases split_or k A with hn | ⟨A1, p, A2, rfl, hn⟩
  · unfold stp
    rw [pinsOf_no hn, rm_no hn]
    intro x hx
    split at hx
    · rcases List.mem_append.1 hx with hx | hx
      · exact h' x hx
      · simp at hx; subst hx; exact .inl rfl
    · split at hx
      · exact h' x hx
      · split at hx
        · exact h' x hx
        · split at hx
          · exact h' x hx
          · split at hx <;> exact h' x hx
  · have key : ∀ q, ∀ x ∈ A1 ++ (k, q) :: A2, x.1 = k ∨ ∃ y ∈ A1 ++ (k, p) :: A2, y.1 = x.1 := fun q x hx => by
      rcases List.mem_append.1 hx with hx | hx
      · exact h' x (by simp [hx])
      · rcases List.mem_cons.1 hx with rfl | hx
        · exact .inl rfl
        · exact h' x (by simp [hx])
    unfold stp
    rw [pinsOf_at hn, rm_at hn]
    intro x hx
    split at hx
    · exact h' x hx
    · split at hx
      · simp only [List.mem_append, List.mem_cons, List.not_mem_nil, or_false] at hx
        rcases hx with (hx | hx) | hx
        · exact h' x (by simp [hx])
        · exact h' x (by simp [hx])
        · subst hx; exact .inl rfl
      · split at hx
        · exact h' x (by rcases List.mem_append.1 hx with h | h <;> simp [h])
        · split at hx
          · simp only at hx; split at hx
            · rw [setP_at hn] at hx; exact key _ x hx
            · exact h' x hx
          · split at hx
            · simp only at hx; split at hx
              · exact h' x hx
              · rw [setP_at hn] at hx; exact key _ x hx
            · exact h' x hx
theorem nodup_len : ∀ {l ks : List Int}, l.Nodup → (∀ x ∈ l, x ∈ ks) → l.length ≤ ks.length
  | [], _, _, _ => Nat.zero_le _
  | x :: l, ks, hn, hs => by
    rw [List.nodup_cons] at hn
    have hx := hs x (by simp)
    have ih := nodup_len (ks := ks.erase x) hn.2 (fun y hy => (List.mem_erase_of_ne (fun (e : y = x) => hn.1 (by rw [← e]; exact hy))).2 (hs y (by simp [hy])))
    rw [List.length_erase_of_mem hx] at ih
    have := List.length_pos_of_mem hx
    simp only [List.length_cons]
    omega
/-- keys of a script -/
def kys (l : List Ac) : List Int := l.map (·.2)
theorem pl_keys {l : List Ac} : ∀ {A : List It}, ∀ x ∈ pl l A, x.1 ∈ kys l ∨ ∃ y ∈ A, y.1 = x.1 := by
  induction l with
  | nil => exact fun x hx => .inr ⟨x, hx, rfl⟩
  | cons a l ih =>
    intro A x hx
    have hx' : x ∈ pl l (stp a.1 a.2 A) := hx
    rcases ih x hx' with h | ⟨y, hy, e⟩
    · exact .inl (by simp only [kys, List.map_cons, List.mem_cons]; exact .inr h)
    · rcases stp_keys y hy with h | ⟨z, hz, e2⟩
      · exact .inl (by simp only [kys, List.map_cons, List.mem_cons]; exact .inl (by rw [← e, h]))
      · exact .inr ⟨z, hz, e2.trans e⟩
theorem pl_len (l : List Ac) : ∀ A : List It, (pl l A).length ≤ A.length + l.length := by
  induction l with
  | nil => exact fun A => Nat.le_refl _
  | cons a l ih =>
    intro A
    have h1 := ih (stp a.1 a.2 A)
    have h2 := stp_length a.1 a.2 A
    have h3 : (pl (a :: l) A).length = (pl l (stp a.1 a.2 A)).length := rfl
    simp only [List.length_cons]
    omega

/-- what a call on an order and another document's order leaves -/
structure PAct (W W' : World) (bo bm g : Nat) (L : List Ent) (bd : Nat) (v v' : Value) (A' : List It) : Prop where
  rd : RD W' bd true v' A'
  kp : Kp W W' (fp bo bm g L ++ fpd bd v)
  sub : ∀ i ∈ fpd bd v', i ∈ fpd bd v ∨ W.heap.size ≤ i
theorem PAct.make {W W1 W2 W3 : World} {bo bm g : Nat} {L L' : List Ent} {bd : Nat} {v v' : Value} {A A' : List It} (ho : RO W bo bm g L) (h : RD W bd true v A) (hb : Below W.heap.size W W1) (ha : I.Act W1 W2 bo bm g L L') (hd : DAct W2 W3 bd true v v' A') : PAct W W3 bo bm g L bd v v' A' := by
  have hs1 := hb.size
  have hs2 := ha.kp.size
  refine ⟨hd.rd, ⟨hd.kp.os.trans (ha.kp.os.trans hb.os), hd.kp.tape.trans (ha.kp.tape.trans hb.tape), hd.kp.output.trans (ha.kp.output.trans hb.output), Nat.le_trans hs1 (Nat.le_trans hs2 hd.kp.size), fun i hi hn => ?_⟩, fun i hi => ?_⟩
  · simp only [List.mem_append, not_or] at hn
    rw [hd.kp.block i (by omega) hn.2, ha.kp.block i (by omega) hn.1, hb.block i hi]
  · rcases hd.sub i hi with h2 | h2
    · exact .inl h2
    · exact .inr (by omega)
theorem PAct.idle {W W1 : World} {bo bm g : Nat} {L : List Ent} {bd : Nat} {v : Value} {A : List It} (h : RD W bd true v A) (hb : Below W.heap.size W W1) : PAct W W1 bo bm g L bd v v A := ⟨h.later hb, Kp.of_below hb _, fun i hi => .inl hi⟩

def Owes2 (fo fd : Nat) (kind k : Int) (W W1 : World) (bo bm g : Nat) (L : List Ent) (bd : Nat) (v : Value) (A : List It) : Prop :=
  Calls Try.prog fo #[.pointer (some ⟨bo, 0, none⟩), .int .i64 k] W1.drew fun r w2 => r = .returned (.bool (ans kind k (L.map I.kp))) ∧ w2.cell? ⟨W.heap.size, 1, none⟩ = some (.int .i64 k) ∧
    Calls Try.prog fd #[.pointer (some ⟨bd, 0, none⟩), .int .i64 k] w2 fun r w3 => r = .returned (.bool (ans kind k A)) ∧ w3.cell? ⟨W.heap.size, 1, none⟩ = some (.int .i64 k) ∧ ∃ v', PAct W w3 bo bm g L bd v v' (stp kind k A)
theorem owes2_of {fo fd : Nat} {kind k : Int} {W W1 : World} {bo bm g : Nat} {L : List Ent} {bd : Nat} {v : Value} {A : List It} (h : RO W bo bm g L) (h' : RD W bd true v A) (hb : Below W.heap.size W W1) (hc : W1.cell? ⟨W.heap.size, 1, none⟩ = some (.int .i64 k)) (hlt : W.heap.size < W1.heap.size)
    (ho : ∀ W2, RO W2 bo bm g L → OCall fo kind W2 bo bm g L k) (hd : ∀ W2, RD W2 bd true v A → DCall fd kind W2 bd v A k) : Owes2 fo fd kind k W W1 bo bm g L bd v A := by
  have hb' : Below W.heap.size W W1.drew := ⟨hb.os, hb.tape, hb.output, hb.size, hb.block⟩
  refine (ho _ (h.later hb')).mono ?_
  rintro r w2 ⟨rfl, L', ha, hA⟩
  have hRD2 : RD w2 bd true v A := (h'.later hb').kept ha.kp fun i hi hf => fp_fpd h h' i hf hi
  have hn1 : W.heap.size ∉ fp bo bm g L := fun hm => by have := h.lt _ hm; omega
  have hn2 : W.heap.size ∉ fpd bd v := fun hm => by have := h'.lt _ hm; omega
  have c2 : w2.cell? ⟨W.heap.size, 1, none⟩ = some (.int .i64 k) := (World.cell?_of_block (ha.kp.block W.heap.size hlt hn1)).trans hc
  refine ⟨rfl, c2, (hd w2 hRD2).mono ?_⟩
  rintro r w3 ⟨rfl, v', hda⟩
  exact ⟨rfl, (World.cell?_of_block (hda.kp.block W.heap.size (Nat.lt_of_lt_of_le hlt ha.kp.size) hn2)).trans c2, v', PAct.make h h' hb' ha hda⟩

set_option maxHeartbeats 8000000 in
theorem play2_any {W : World} {bo bm g : Nat} {L : List Ent} {bd : Nat} {v : Value} {A : List It} (h : RO W bo bm g L) (h' : RD W bd true v A) (kind k : Int) (hk : wfK k) (hl : L.length < 8796093022208) (hl' : A.length < 8796093022208) :
    Calls Try.prog 10 #[.pointer (some ⟨bo, 0, none⟩), .pointer (some ⟨bd, 0, none⟩), .agg #[.int .i64 kind, .int .i64 k]] W fun r W' => ∃ b, r = .returned (.bool b) ∧ ∃ v', PAct W W' bo bm g L bd v v' (stp kind k A) := by
  have hbx := heap_alloc_new W (.cells #[.int .i64 kind, .int .i64 k] TAc)
  have hB1 : Below W.heap.size W (W.alloc (.cells #[.int .i64 kind, .int .i64 k] TAc)) := (Below.refl _ W).alloc (Nat.le_refl _) _
  have hs1 : W.heap.size < (W.alloc (.cells #[.int .i64 kind, .int .i64 k] TAc)).heap.size := by rw [World.size_alloc]; omega
  have x0 : (W.alloc (.cells #[.int .i64 kind, .int .i64 k] TAc)).cell? ⟨W.heap.size, 0, none⟩ = some (.int .i64 kind) := (cell_of hbx).trans rfl
  have x1 : (W.alloc (.cells #[.int .i64 kind, .int .i64 k] TAc)).cell? ⟨W.heap.size, 1, none⟩ = some (.int .i64 k) := (cell_of hbx).trans rfl
  have hml : L.length < maxLen := by unfold maxLen; omega
  have O1 := owes2_of (fo := 34) (fd := 16) (kind := 1) h h' hB1 x1 hs1 (fun W2 h2 => o_add h2 hk hml) (fun W2 h2 => d_add h2 k hl')
  have O2 := owes2_of (fo := 30) (fd := 18) (kind := 2) h h' hB1 x1 hs1 (fun W2 h2 => o_touch h2 hk) (fun W2 h2 => d_touch h2 k)
  have O3 := owes2_of (fo := 33) (fd := 20) (kind := 3) h h' hB1 x1 hs1 (fun W2 h2 => o_drop h2 hk) (fun W2 h2 => d_drop h2 k)
  have O4 := owes2_of (fo := 41) (fd := 22) (kind := 4) h h' hB1 x1 hs1 (fun W2 h2 => o_pin h2 hk) (fun W2 h2 => d_pin h2 k)
  have O5 := owes2_of (fo := 43) (fd := 24) (kind := 5) h h' hB1 x1 hs1 (fun W2 h2 => o_unpin h2 hk) (fun W2 h2 => d_unpin h2 k)
  have HI : Hid (PAct W (W.alloc (.cells #[.int .i64 kind, .int .i64 k] TAc)) bo bm g L bd v v A) := PAct.idle h' hB1
  unfold Owes2 at O1 O2 O3 O4 O5
  have bq : ∀ (w : World) (a b : Bool), (binOp .eql 4 (.bool a) (.bool b)).run Try.prog w = .ok (.bool (a == b)) w := fun w a b => by cases a <;> cases b <;> rfl
  clear h h' hbx hB1 hs1 hml hl hl' hk
  by_cases e1 : kind = 1
  · subst e1
    generalize ans 1 k (L.map I.kp) = ab at *
    generalize ans 1 k A = ac at *
    clear O2 O3 O4 O5
    go_enter Try.func10, Try.ntmps10
    go_wp2
    go_region_held3 (fun w' => w'.cell? ⟨W.heap.size, 1, none⟩ = some (.int .i64 k)) (first | go_keep | exact hc2 | exact hc3) (first | (go_at_call 34; refine O1.mono ?_; rintro r w2 ⟨rfl, hc2, hn2⟩) | (go_at_call 16; refine hn2.mono ?_; rintro r w3 ⟨rfl, hc3, v', hS⟩))
    go_wp2
    go_ret
    exact ⟨_, rfl, v', hS⟩
  by_cases e2 : kind = 2
  · subst e2
    generalize ans 2 k (L.map I.kp) = ab at *
    generalize ans 2 k A = ac at *
    clear O1 O3 O4 O5
    go_enter Try.func10, Try.ntmps10
    go_wp2
    go_region_held3 (fun w' => w'.cell? ⟨W.heap.size, 1, none⟩ = some (.int .i64 k)) (first | go_keep | exact hc2 | exact hc3) (first | (go_at_call 30; refine O2.mono ?_; rintro r w2 ⟨rfl, hc2, hn2⟩) | (go_at_call 18; refine hn2.mono ?_; rintro r w3 ⟨rfl, hc3, v', hS⟩))
    go_wp2
    go_ret
    exact ⟨_, rfl, v', hS⟩
  by_cases e3 : kind = 3
  · subst e3
    generalize ans 3 k (L.map I.kp) = ab at *
    generalize ans 3 k A = ac at *
    clear O1 O2 O4 O5
    go_enter Try.func10, Try.ntmps10
    go_wp2
    go_region_held3 (fun w' => w'.cell? ⟨W.heap.size, 1, none⟩ = some (.int .i64 k)) (first | go_keep | exact hc2 | exact hc3) (first | (go_at_call 33; refine O3.mono ?_; rintro r w2 ⟨rfl, hc2, hn2⟩) | (go_at_call 20; refine hn2.mono ?_; rintro r w3 ⟨rfl, hc3, v', hS⟩))
    go_wp2
    go_ret
    exact ⟨_, rfl, v', hS⟩
  by_cases e4 : kind = 4
  · subst e4
    generalize ans 4 k (L.map I.kp) = ab at *
    generalize ans 4 k A = ac at *
    clear O1 O2 O3 O5
    go_enter Try.func10, Try.ntmps10
    go_wp2
    go_region_held3 (fun w' => w'.cell? ⟨W.heap.size, 1, none⟩ = some (.int .i64 k)) (first | go_keep | exact hc2 | exact hc3) (first | (go_at_call 41; refine O4.mono ?_; rintro r w2 ⟨rfl, hc2, hn2⟩) | (go_at_call 22; refine hn2.mono ?_; rintro r w3 ⟨rfl, hc3, v', hS⟩))
    go_wp2
    go_ret
    exact ⟨_, rfl, v', hS⟩
  by_cases e5 : kind = 5
  · subst e5
    generalize ans 5 k (L.map I.kp) = ab at *
    generalize ans 5 k A = ac at *
    clear O1 O2 O3 O4
    go_enter Try.func10, Try.ntmps10
    go_wp2
    go_region_held3 (fun w' => w'.cell? ⟨W.heap.size, 1, none⟩ = some (.int .i64 k)) (first | go_keep | exact hc2 | exact hc3) (first | (go_at_call 43; refine O5.mono ?_; rintro r w2 ⟨rfl, hc2, hn2⟩) | (go_at_call 24; refine hn2.mono ?_; rintro r w3 ⟨rfl, hc3, v', hS⟩))
    go_wp2
    go_ret
    exact ⟨_, rfl, v', hS⟩
  have f1 : (kind == 1) = false := by simpa using e1
  have f2 : (kind == 2) = false := by simpa using e2
  have f3 : (kind == 3) = false := by simpa using e3
  have f4 : (kind == 4) = false := by simpa using e4
  have f5 : (kind == 5) = false := by simpa using e5
  have HE : Hid (stp kind k A = A) := stp_other e1 e2 e3 e4 e5
  clear O1 O2 O3 O4 O5 e1 e2 e3 e4 e5
  go_enter Try.func10, Try.ntmps10
  go_wp2
  go_ret
  refine ⟨_, rfl, v, ?_⟩
  rw [HE.out]
  exact HI.out

/-- both orders, at a state that is known -/
def Sp (w W : World) (bo bm g bd : Nat) (A : List It) : Prop := ∃ L v, St W bo bm g L bd v ∧ L.map I.kp = A ∧ Below w.heap.size w W ∧ ∀ i ∈ fp bo bm g L ++ fpd bd v, w.heap.size ≤ i
theorem Sp.below {w W : World} {bo bm g bd : Nat} {A : List It} (h : Sp w W bo bm g bd A) : Below w.heap.size w W := by obtain ⟨_, _, _, _, h, _⟩ := h; exact h
theorem Sp.play {w W : World} {bo bm g bd : Nat} {A : List It} (h : Sp w W bo bm g bd A) (kind k : Int) (hk : wfK k) (hn : A.length < 8796093022208) :
    Calls Try.prog 10 #[.pointer (some ⟨bo, 0, none⟩), .pointer (some ⟨bd, 0, none⟩), .agg #[.int .i64 kind, .int .i64 k]] W fun r W' => r = .returned (.bool true) ∧ Sp w W' bo bm g bd (stp kind k A) := by
  obtain ⟨L, v, h1, rfl, h3, h4⟩ := h
  refine (play_any h1 kind k hk (by simpa using hn)).mono ?_
  rintro r W' ⟨rfl, L', v', ha, hA⟩
  obtain ⟨b1, b2⟩ := ha.below h3 h4
  exact ⟨rfl, L', v', ha.st, hA, b1, b2⟩
set_option maxHeartbeats 4000000 in
theorem built2_any (ao : Option Addr) (c m : Nat) (l : List Ac) (w : World) (HM : Hid (m = l.length)) (hl : m ≤ 8796093022208) (HA : Hid (ARow w ao l)) (HW : Hid (∀ x ∈ l, wfK x.2)) :
    Calls Try.prog 38 #[.slice ao m c] w fun r w' => ∃ bo bm g, r = .returned (.pointer (some ⟨bo, 0, none⟩)) ∧ Os w w' bo bm g (pl l []) := by
  go_enter Try.func38, Try.ntmps38
  go_wp2_with (go_at_call 9; refine (new_any _).mono ?_; rintro e w0 ⟨bo, bm, g, rfl, h0, hb0, hf0⟩; have hsg := Sg.start h0 hb0 hf0; have H0 : Hid (Sp w (w0.alloc (.cells #[.bool true, .slice none 0 0] TDo)) bo bm g w0.heap.size []) := (by obtain ⟨L, v, a1, a2, a3, a4⟩ := hsg; have hL : L = [] := List.length_eq_zero_iff.1 (Nat.le_zero.1 a2); subst hL; exact ⟨[], v, a1, rfl, a3, a4⟩); clear h0 hb0 hf0 hsg)
  go_loopw [5] (fun i wr => ∃ (k : Nat), k ≤ m ∧ i = .int .i64 k ∧ Hid (Sp w wr bo bm g w0.heap.size (pl (l.take k) []))) (fun i _ => m - (intOf i).toNat)
  case atStart => exact ⟨0, Nat.zero_le _, rfl, H0⟩
  case round =>
    obtain ⟨k, hk, rfl, HK⟩ := hrel
    by_cases hlt : k < m
    · obtain ⟨x, hx⟩ : ∃ x, l[k]? = some x := ⟨_, List.getElem?_eq_getElem (by have := HM.out; omega)⟩
      obtain ⟨b, off, rfl, c0, c1⟩ := HA.out.c _ _ hx
      have hcr0 := cell_later HK.out.below c0
      have hcr1 := cell_later HK.out.below c1
      have hwf : Hid (wfK x.2) := HW.out x (List.mem_of_getElem? hx)
      have d1 : (k : Int) < (m : Int) := by omega
      have hlen : (pl (l.take k) []).length < 8796093022208 := by
        have := pl_len (l.take k) []
        rw [List.length_take] at this
        simp at this
        omega
      have hpl := HK.out.play x.1 x.2 hwf.out hlen
      rw [← pl_snoc, ← take_ac hx] at hpl
      clear c0 c1 hx hlen
      go_wp2_with (go_at_call 10; refine hpl.mono ?_; rintro e w1 ⟨rfl, h1⟩; have H3 : Hid (Sp w w1 bo bm g w0.heap.size (pl (l.take (k + 1)) [])) := h1; clear h1)
      go_roundw
      case rel => exact ⟨k + 1, by omega, by go_num, H3⟩
      case measure => simp [intOf]; omega
    · have e : k = m := by omega
      subst e
      have HE : Hid (l.take k = l) := by rw [HM.out]; exact List.take_length
      go_wp2
      go_ret
      obtain ⟨L, v, a1, a2, a3, a4⟩ := HK.out
      rw [HE.out] at a2
      exact ⟨bo, bm, g, rfl, ⟨L, a1.o, a2, a3, fun i hi => a4 i (List.mem_append_left _ hi)⟩⟩
end Go.Proofs.Ytpchllepboolhaa.D
