import Derived.Test.YtjikibhhhchgeaaDoorPIn
namespace Go.Proofs.YtjikibhhhchgeaaDoor
open Go.RowKit
set_option linter.unusedVariables false
set_option linter.unusedSimpArgs false
set_option maxRecDepth 100000
abbrev PkC (w : World) (r : List Nat × Nat) (e : Ending) (w' : World) : Prop := Pk w r.1 r.2 e w'
def rInfoC (k sz fl : Nat) (s : ByteArray) (mn pf mx : Nat) (d : List Nat) : List Nat × Nat := if ifB k sz fl s mn pf mx d.length = true then (inL k sz fl s mn pf mx d, 0) else ([], 81)
def rAskC (s : ByteArray) (ks : List Nat) : List Nat × Nat := if tx s = true then (if ks.length ≤ 64 then (irL s ks, 0) else ([], 170)) else ([], 81)
def rMetasC (s : ByteArray) (qs : List ByteArray) : List Nat × Nat := if tx s = true then (if txs qs = true then (if qs.length ≤ 16 then (mqL s qs, 0) else ([], 170)) else ([], 81)) else ([], 81)
def rMetaC (c : Nat) (s : ByteArray) : List Nat × Nat := if tx s = true then (meL c s, 0) else ([], 81)
def rServerC (s : ByteArray) (m : List Nat) : List Nat × Nat := if tx s = true then (seL s m, 0) else ([], 81)
def rStatusC (wide : Bool) (cx : Nat) (rs : List (Nat × Nat)) : List Nat × Nat := if (fitA wide rs && decide (0 < rs.length)) = true then (stL wide cx rs, 0) else ([], 81)
def rErrorC (c : Nat) (s : ByteArray) (pl : Bool) (a : Nat) : List Nat × Nat := if tx s = true then (if pl = true then (erL1 c s a, 0) else (if a = 0 then (erL0 c s, 0) else ([], 81))) else ([], 81)
def rDataC (off : Nat) (m : List Nat) : List Nat × Nat := if m = [] then ([], 81) else (daL off m, 0)
end Go.Proofs.YtjikibhhhchgeaaDoor

namespace Go.Proofs.YtjikibhhhchgeaaDoor
open Go.RowKit
set_option linter.unusedVariables false
set_option linter.unusedSimpArgs false
set_option maxRecDepth 100000
/-- one of each body -/
structure Bod where
  (k sz fl : Nat)
  s1 : ByteArray
  (mn pf mx : Nat)
  a1 : Option Addr
  (n1 c1 : Nat)
  d1 : List Nat
  s2 : ByteArray
  a2 : Option Addr
  (n2 c2 : Nat)
  ks : List Nat
  s3 : ByteArray
  a3 : Option Addr
  (n3 c3 : Nat)
  qs : List ByteArray
  mc : Nat
  s4 : ByteArray
  s5 : ByteArray
  a5 : Option Addr
  (n5 c5 : Nat)
  m5 : List Nat
  cx : Nat
  a6 : Option Addr
  (n6 c6 : Nat)
  rs : List (Nat × Nat)
  wide : Bool
  ec : Nat
  s7 : ByteArray
  pl : Bool
  ea : Nat
  off : Nat
  a8 : Option Addr
  (n8 c8 : Nat)
  m8 : List Nat
  (ho ln : Nat)
def Bod.cells (x : Bod) : Array Value := #[.int .u16 (x.k : Int), .int .u64 (x.sz : Int), .int .u16 (x.fl : Int), .string x.s1, .int .u32 (x.mn : Int), .int .u32 (x.pf : Int), .int .u32 (x.mx : Int), .slice x.a1 x.n1 x.c1, .string x.s2, .slice x.a2 x.n2 x.c2, .string x.s3, .slice x.a3 x.n3 x.c3, .int .u32 (x.mc : Int), .string x.s4, .string x.s5, .slice x.a5 x.n5 x.c5, .int .u32 (x.cx : Int), .slice x.a6 x.n6 x.c6, .bool x.wide, .int .u32 (x.ec : Int), .string x.s7, .bool x.pl, .int .u64 (x.ea : Int), .int .u64 (x.off : Int), .slice x.a8 x.n8 x.c8, .int .u64 (x.ho : Int), .int .u32 (x.ln : Int)]
structure Bod.ok (x : Bod) (w : World) : Prop where
  hk : x.k < 65536
  hsz : x.sz < 18446744073709551616
  hfl : x.fl < 65536
  h1 : x.s1.size ≤ 9223372036854775807
  hmn : x.mn < 4294967296
  hpf : x.pf < 4294967296
  hmx : x.mx < 4294967296
  r1 : BRow w x.a1 x.c1 x.d1
  l1 : x.d1.length = x.n1
  b1 : x.n1 ≤ 1048576
  h2 : x.s2.size ≤ 9223372036854775807
  r2 : U16s w x.a2 x.ks
  l2 : x.ks.length = x.n2
  h3 : x.s3.size ≤ 9223372036854775807
  r3 : Strs w x.a3 x.qs
  l3 : x.qs.length = x.n3
  b3 : x.n3 ≤ 1048576
  hmc : x.mc < 4294967296
  h4 : x.s4.size ≤ 9223372036854775807
  h5 : x.s5.size ≤ 9223372036854775807
  r5 : BRow w x.a5 x.c5 x.m5
  l5 : x.m5.length = x.n5
  b5 : x.n5 ≤ 1048576
  hcx : x.cx < 4294967296
  r6 : Runs w x.a6 x.rs
  l6 : x.rs.length = x.n6
  b6 : x.n6 ≤ 1048576
  hec : x.ec < 4294967296
  h7 : x.s7.size ≤ 9223372036854775807
  hea : x.ea < 18446744073709551616
  hoff : x.off < 18446744073709551616
  r8 : BRow w x.a8 x.c8 x.m8
  l8 : x.m8.length = x.n8
  b8 : x.n8 ≤ 1048576
  hho : x.ho < 18446744073709551616
  hln : x.ln < 4294967296
theorem Bod.ok.later {x : Bod} {w w' : World} (h : x.ok w) (hb : Below w.heap.size w w') : x.ok w' :=
  { h with r1 := h.r1.later hb, r2 := h.r2.later hb, r3 := h.r3.later hb, r5 := h.r5.later hb, r6 := h.r6.later hb, r8 := h.r8.later hb }
def Bod.res (x : Bod) : List (List Nat × Nat) := [rInfoC x.k x.sz x.fl x.s1 x.mn x.pf x.mx x.d1, rAskC x.s2 x.ks, rMetasC x.s3 x.qs, rMetaC x.mc x.s4, rServerC x.s5 x.m5, rStatusC x.wide x.cx x.rs, rErrorC x.ec x.s7 x.pl x.ea, rDataC x.off x.m8, (hoL x.ho x.ln, 0)]
/-- an answer of Pack -/
structure Rp where
  ao : Option Addr
  n : Nat
  cap : Nat
  E : Nat
  L : List Nat
def Rp.cells (r : Rp) : List Value := [.slice r.ao r.n r.cap, .int .i64 (r.E : Int)]
/-- what was packed so far -/
structure Pks (w W : World) (v : Value) (l : List Rp) : Prop where
  own : W.ownsRow w.heap.size 52 2 v l.length (l.flatMap Rp.cells)
  rows : ∀ r ∈ l, W.ownsRow w.heap.size 5 1 (.slice r.ao r.n r.cap) r.n (r.L.map bv) ∧ r.L.length = r.n ∧ ∀ y ∈ r.L, y < 256
  bel : Below w.heap.size w W
theorem owns_type2 {w : World} {base e n size : Nat} {v : Value} {xs : List Value} (h : w.ownsRow base e size v n xs) (g : Nat) (hg : v.ownBlock = some g) : (∃ cur, w.heap[g]? = some (.cells cur e (0, 0))) ∧ base ≤ g ∧ g < w.heap.size := by
  rcases h.2 with ⟨hv, _⟩ | ⟨g', cap, cur, hv, hb, hc, _⟩
  · subst hv; simp [Value.ownBlock] at hg
  · subst hv
    have e : g' = g := by simpa [Value.ownBlock] using hg
    subst e
    exact ⟨⟨cur, hc⟩, hb, block_lt hc⟩
theorem owns_same2 {w w' : World} {base e n size : Nat} {v : Value} {xs : List Value} (h : w.ownsRow base e size v n xs) (hs : ∀ g, v.ownBlock = some g → w'.heap[g]? = w.heap[g]?) : w'.ownsRow base e size v n xs := by
  refine ⟨h.1, ?_⟩
  rcases h.2 with h1 | ⟨g, cap, cur, hv, hb, hc, h4, h5, h6, h7⟩
  · exact .inl h1
  · exact .inr ⟨g, cap, cur, hv, hb, by rw [hs g (by rw [hv]; rfl)]; exact hc, h4, h5, h6, h7⟩
theorem owns_form2 {w : World} {base e n size : Nat} {v : Value} {xs : List Value} (h : w.ownsRow base e size v n xs) : ∃ ao cap, v = .slice ao n cap := by
  rcases h.2 with ⟨hv, h0⟩ | ⟨g, cap, cur, hv, _⟩
  · exact ⟨none, 0, by rw [hv, h0]⟩
  · exact ⟨_, _, hv⟩
theorem Pks.nil (w : World) : Pks w w (.slice none 0 0) [] := ⟨World.ownsRow_nil _ _ _ _, by simp, Below.refl _ _⟩
theorem Pks.later {w W W' : World} {v : Value} {l : List Rp} (h : Pks w W v l) (k : Below W.heap.size W W') : Pks w W' v l :=
  ⟨owns_same2 h.own (fun g hg => k.block g (owns_type2 h.own g hg).2.2), fun r hr => ⟨owns_same (h.rows r hr).1 (fun g hg => k.block g (owns_lt (h.rows r hr).1 g hg).1), (h.rows r hr).2⟩, h.bel.trans (k.mono h.bel.size)⟩
/-- one more: its row was made in between, then the list was grown -/
theorem Pks.add {w W W1 W2 w3 : World} {v v' : Value} {l : List Rp} {ao : Option Addr} {n cap E : Nat} {L : List Nat} (h : Pks w W v l) (hr : Row W W1 ao cap L) (hn : L.length = n) (hb : Below W1.heap.size W1 W2)
    (ho : w3.ownsRow w.heap.size 52 2 v' (l.length + 1) (l.flatMap Rp.cells ++ [.slice ao n cap, .int .i64 (E : Int)])) (hg : W2.grownBy w3 v.ownBlock) : Pks w w3 v' (l ++ [⟨ao, n, cap, E, L⟩]) := by
  have h2 := (h.later hr.bel).later hb
  have hnew : W2.ownsRow w.heap.size 5 1 (.slice ao n cap) n (L.map bv) := by
    subst hn
    exact owns_same (owns_mono hr.own h.bel.size) (fun g hg => hb.block g (owns_lt hr.own g hg).1)
  have hkeep : ∀ (u : Value) (m : Nat) (xs : List Value), W2.ownsRow w.heap.size 5 1 u m xs → w3.ownsRow w.heap.size 5 1 u m xs := fun u m xs hu => owns_same hu (fun g hg' => by
    refine hg.block g (owns_lt hu g hg').1 (fun e => ?_)
    obtain ⟨⟨cur, e1⟩, _, _⟩ := owns_type2 h2.own g e.symm
    obtain ⟨cur2, e2⟩ := owns_type hu g hg'
    rw [e1] at e2; simp at e2)
  refine ⟨by simpa [Rp.cells] using ho, fun r hm => ?_, h2.bel.grown hg h2.bel.size (fun g hg' => (owns_type2 h2.own g hg').2.1)⟩
  rcases List.mem_append.1 hm with hm | hm
  · exact ⟨hkeep _ _ _ (h2.rows r hm).1, (h2.rows r hm).2⟩
  · simp at hm; subst hm
    exact ⟨hkeep _ _ _ hnew, hn, hr.lt⟩
/-- a box of another type stays -/
theorem Pks.box {w W w3 : World} {v : Value} {l : List Rp} (h : Pks w W v l) (hg : W.grownBy w3 v.ownBlock) {b : Nat} {cs : Array Value} {t : TypeId} (hb : W.heap[b]? = some (.cells cs t (0, 0))) (ht : t ≠ 52) : w3.heap[b]? = some (.cells cs t (0, 0)) := by
  rw [hg.block b (block_lt hb) (fun e => ?_)]
  · exact hb
  · obtain ⟨⟨cur, e1⟩, _, _⟩ := owns_type2 h.own b e.symm
    rw [hb] at e1; simp at e1; exact ht e1.2
theorem infoPk : (Tryd.prog.info? 52).map (fun i => (i.zero, i.size, i.bytes)) = some (some (.agg #[.slice none 0 0, .int .i64 0]), 2, 32) := by kernel_rfl
end Go.Proofs.YtjikibhhhchgeaaDoor

namespace Go.Proofs.YtjikibhhhchgeaaDoor
open Go.RowKit
set_option linter.unusedVariables false
set_option linter.unusedSimpArgs false
set_option maxRecDepth 100000
theorem pMetaC (c : Nat) (s : ByteArray) (w : World) (h1 : c < 4294967296) (hs : s.size ≤ 9223372036854775807) (hT : Tabs w) :
    Calls Tryd.prog 34 #[.agg #[.int .u32 (c : Int), .string s]] w fun e w' => PkC w (rMetaC c s) e w' := by
  unfold rMetaC
  cases ht : tx s with
  | true => exact packMeta_ok c s w h1 hT ht
  | false => exact packMeta_bad c s w hs hT ht
theorem pDataC (off n : Nat) (da : Option Addr) (dc : Nat) (m : List Nat) (w : World) (h1 : off < 18446744073709551616) (hr : BRow w da dc m) (hm0 : m.length = n) (hn2 : n ≤ 1048576) :
    Calls Tryd.prog 29 #[.agg #[.int .u64 (off : Int), .slice da n dc]] w fun e w' => PkC w (rDataC off m) e w' := by
  by_cases hm : m = []
  · subst hm; simp at hm0; subst hm0
    exact packData_bad off da dc w
  · have hp : 0 < n := by rw [← hm0]; exact List.length_pos_iff.2 hm
    unfold rDataC; rw [if_neg hm]
    exact packData_ok off n da dc m w h1 hr hm0 hp (by omega)
theorem pErrorC (c : Nat) (s : ByteArray) (pl : Bool) (a : Nat) (w : World) (h1 : c < 4294967296) (h2 : a < 18446744073709551616) (hs : s.size ≤ 9223372036854775807) (hT : Tabs w) :
    Calls Tryd.prog 37 #[.agg #[.int .u32 (c : Int), .string s, .bool pl, .int .u64 (a : Int)]] w fun e w' => PkC w (rErrorC c s pl a) e w' := by
  unfold rErrorC
  cases ht : tx s with
  | false => exact packError_bad c s pl a w hs hT ht
  | true =>
    cases pl with
    | true => exact packError_ok1 c s a w h1 h2 hT ht
    | false =>
      by_cases ha : a = 0
      · simp only [if_true, Bool.false_eq_true, if_false, if_pos ha]
        exact packError_ok0 c s a w h1 ha hT ht
      · simp only [if_true, Bool.false_eq_true, if_false, if_neg ha]
        exact packError_at c s a w hs hT ht ha
theorem pAskC (s : ByteArray) (ia : Option Addr) (k ic : Nat) (ks : List Nat) (w : World) (hu : U16s w ia ks) (hks : ks.length = k) (hs : s.size ≤ 9223372036854775807) (hT : Tabs w) :
    Calls Tryd.prog 32 #[.agg #[.string s, .slice ia k ic]] w fun e w' => PkC w (rAskC s ks) e w' := by
  unfold rAskC
  rw [hks]
  cases ht : tx s with
  | false => exact packInfoReq_bad s ia k ic w hs hT ht
  | true =>
    by_cases hk : k ≤ 64
    · simp only [if_true, if_pos hk]
      exact packInfoReq_ok s ia k ic ks w hu hks hk hT ht
    · simp only [if_true, if_neg hk]
      exact packInfoReq_many s ia k ic w hs hT ht (by omega)
theorem pMetasC (s : ByteArray) (qa : Option Addr) (k qc : Nat) (qs : List ByteArray) (w : World) (hq : Strs w qa qs) (hks : qs.length = k) (hk : k ≤ 1048576) (hs : s.size ≤ 9223372036854775807) (hT : Tabs w) :
    Calls Tryd.prog 33 #[.agg #[.string s, .slice qa k qc]] w fun e w' => PkC w (rMetasC s qs) e w' := by
  unfold rMetasC
  rw [hks]
  cases ht : tx s with
  | false => exact packMetaReq_bad s qa k qc w hs hT ht
  | true =>
    cases htx : txs qs with
    | false => exact packMetaReq_bad2 s qa k qc qs w hq hks hk hs hT ht htx
    | true =>
      by_cases hk2 : k ≤ 16
      · simp only [if_true, if_pos hk2]
        exact packMetaReq_ok s qa k qc qs w hq hks hk2 hT ht htx
      · simp only [if_true, if_neg hk2]
        exact packMetaReq_many s qa k qc qs w hq hks hk (by omega) hs hT ht htx
theorem pStatusC (cx : Nat) (ra : Option Addr) (n rc : Nat) (wide : Bool) (rs : List (Nat × Nat)) (w : World) (hc : cx < 4294967296) (h : Runs w ra rs) (hn : rs.length = n) (hn2 : n ≤ 1048576) :
    Calls Tryd.prog 36 #[.agg #[.int .u32 (cx : Int), .slice ra n rc], .bool wide] w fun e w' => PkC w (rStatusC wide cx rs) e w' := by
  unfold rStatusC
  rw [hn]
  cases hf : (fitA wide rs && decide (0 < n)) with
  | false => exact packStatus_bad cx ra n rc wide rs w h hn hn2 hf
  | true =>
    have hf1 : fitA wide rs = true := by simp at hf; exact hf.1
    have hf2 : 0 < n := by simp at hf; exact hf.2
    cases wide with
    | true => exact packStatus_ok1 cx ra n rc rs w hc h hn hn2 hf2 hf1
    | false => exact packStatus_ok0 cx ra n rc rs w hc h hn hn2 hf2 hf1
theorem pServerC (s : ByteArray) (n : Nat) (da : Option Addr) (dc : Nat) (m : List Nat) (w : World) (hr : BRow w da dc m) (hm0 : m.length = n) (hn2 : n ≤ 1048576) (hs : s.size ≤ 9223372036854775807) (hT : Tabs w) :
    Calls Tryd.prog 35 #[.agg #[.string s, .slice da n dc]] w fun e w' => PkC w (rServerC s m) e w' := by
  unfold rServerC
  cases ht : tx s with
  | true => exact packServer_ok s n da dc m w hr hm0 (by omega) hT ht
  | false => exact packServer_bad s n da dc w hs hT ht
theorem pInfoC (k sz fl : Nat) (s : ByteArray) (mn pf mx : Nat) (da : Option Addr) (n dc : Nat) (d : List Nat) (w : World) (hk : k < 65536) (hsz : sz < 18446744073709551616) (hfl : fl < 65536) (hs : s.size ≤ 9223372036854775807) (hmn : mn < 4294967296) (hpf : pf < 4294967296) (hmx : mx < 4294967296) (hr : BRow w da dc d) (hd : d.length = n) (hn : n ≤ 1048576) (hT : Tabs w) :
    Calls Tryd.prog 31 #[.agg #[.int .u16 (k : Int), .int .u64 (sz : Int), .int .u16 (fl : Int), .string s, .int .u32 (mn : Int), .int .u32 (pf : Int), .int .u32 (mx : Int), .slice da n dc]] w fun e w' => PkC w (rInfoC k sz fl s mn pf mx d) e w' := by
  unfold rInfoC
  rw [hd]
  cases hf : ifB k sz fl s mn pf mx n with
  | false => exact packInfo_bad k sz fl s mn pf mx da n dc d w hk hsz hfl hs hmn hpf hmx hr hd hn hT hf
  | true =>
    by_cases h0 : k = 0
    · exact packInfo_0 k sz fl s mn pf mx da n dc d w hk hsz hfl hs hmn hpf hmx hr hd hn hT hf h0
    by_cases h1 : k = 1
    · exact packInfo_1 k sz fl s mn pf mx da n dc d w hk hsz hfl hs hmn hpf hmx hr hd hn hT hf h1
    by_cases h2 : k = 2
    · exact packInfo_2 k sz fl s mn pf mx da n dc d w hk hsz hfl hs hmn hpf hmx hr hd hn hT hf h2
    by_cases h3 : k = 3
    · exact packInfo_3 k sz fl s mn pf mx da n dc d w hk hsz hfl hs hmn hpf hmx hr hd hn hT hf h3
    exact packInfo_o k sz fl s mn pf mx da n dc d w hk hsz hfl hs hmn hpf hmx hr hd hn hT hf ⟨h0, h1, h2, h3⟩
end Go.Proofs.YtjikibhhhchgeaaDoor
