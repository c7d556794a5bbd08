import Derived.Test.YtjikibhhhchgeaaDoorPIn
import Derived.Test.YtjikibhhhchgeaaDoorPPt
import Derived.Test.YtjikibhhhchgeaaDoorRPk
import Derived.Test.YtjikibhhhchgeaaDoorRIf
import Derived.Test.YtjikibhhhchgeaaDoorRIg
import Derived.Test.YtjikibhhhchgeaaDoorRIh
import Derived.Test.YtjikibhhhchgeaaDoorRIi
import Derived.Test.YtjikibhhhchgeaaDoorRIs
import Derived.Test.YtjikibhhhchgeaaDoorRPs
import Derived.Test.YtjikibhhhchgeaaDoorRPq
import Derived.Test.YtjikibhhhchgeaaDoorRMq
namespace Go.Proofs.YtjikibhhhchgeaaDoor
open Go.RowKit
set_option linter.unusedVariables false
set_option linter.unusedSimpArgs false
set_option maxRecDepth 100000
abbrev PkC (w : World) (r : List Nat × Nat) (e : Ending) (w' : World) : Prop := Pk w r.1 r.2 e w'
def rInfoC (k sz fl : Nat) (s : ByteArray) (mn pf mx : Nat) (d : List Nat) : List Nat × Nat := if ifB k sz fl s mn pf mx d.length = true then (inL k sz fl s mn pf mx d, 0) else ([], 81)
def rAskC (s : ByteArray) (ks : List Nat) : List Nat × Nat := if tx s = true then (if ks.length ≤ 64 then (irL s ks, 0) else ([], 170)) else ([], 81)
def rMetasC (s : ByteArray) (qs : List ByteArray) : List Nat × Nat := if tx s = true then (if txs qs = true then (if qs.length ≤ 16 then (mqL s qs, 0) else ([], 170)) else ([], 81)) else ([], 81)
def rMetaC (c : Nat) (s : ByteArray) : List Nat × Nat := if tx s = true then (meL c s, 0) else ([], 81)
def rServerC (s : ByteArray) (m : List Nat) : List Nat × Nat := if tx s = true then (seL s m, 0) else ([], 81)
def rStatusC (wide : Bool) (cx : Nat) (rs : List (Nat × Nat)) : List Nat × Nat := if (fitA wide rs && decide (0 < rs.length)) = true then (stL wide cx rs, 0) else ([], 81)
def rErrorC (c : Nat) (s : ByteArray) (pl : Bool) (a : Nat) : List Nat × Nat := if tx s = true then (if pl = true then (erL1 c s a, 0) else (if a = 0 then (erL0 c s, 0) else ([], 81))) else ([], 81)
def rDataC (off : Nat) (m : List Nat) : List Nat × Nat := if m = [] then ([], 81) else (daL off m, 0)
end Go.Proofs.YtjikibhhhchgeaaDoor

namespace Go.Proofs.YtjikibhhhchgeaaDoor
open Go.RowKit
set_option linter.unusedVariables false
set_option linter.unusedSimpArgs false
set_option maxRecDepth 100000
/-- one of each body -/
structure Bod where
  (k sz fl : Nat)
  s1 : ByteArray
  (mn pf mx : Nat)
  a1 : Option Addr
  (n1 c1 : Nat)
  d1 : List Nat
  s2 : ByteArray
  a2 : Option Addr
  (n2 c2 : Nat)
  ks : List Nat
  s3 : ByteArray
  a3 : Option Addr
  (n3 c3 : Nat)
  qs : List ByteArray
  mc : Nat
  s4 : ByteArray
  s5 : ByteArray
  a5 : Option Addr
  (n5 c5 : Nat)
  m5 : List Nat
  cx : Nat
  a6 : Option Addr
  (n6 c6 : Nat)
  rs : List (Nat × Nat)
  wide : Bool
  ec : Nat
  s7 : ByteArray
  pl : Bool
  ea : Nat
  off : Nat
  a8 : Option Addr
  (n8 c8 : Nat)
  m8 : List Nat
  (ho ln : Nat)
def Bod.cells (x : Bod) : Array Value := #[.int .u16 (x.k : Int), .int .u64 (x.sz : Int), .int .u16 (x.fl : Int), .string x.s1, .int .u32 (x.mn : Int), .int .u32 (x.pf : Int), .int .u32 (x.mx : Int), .slice x.a1 x.n1 x.c1, .string x.s2, .slice x.a2 x.n2 x.c2, .string x.s3, .slice x.a3 x.n3 x.c3, .int .u32 (x.mc : Int), .string x.s4, .string x.s5, .slice x.a5 x.n5 x.c5, .int .u32 (x.cx : Int), .slice x.a6 x.n6 x.c6, .bool x.wide, .int .u32 (x.ec : Int), .string x.s7, .bool x.pl, .int .u64 (x.ea : Int), .int .u64 (x.off : Int), .slice x.a8 x.n8 x.c8, .int .u64 (x.ho : Int), .int .u32 (x.ln : Int)]
structure Bod.ok (x : Bod) (w : World) : Prop where
  hk : x.k < 65536
  hsz : x.sz < 18446744073709551616
  hfl : x.fl < 65536
  h1 : x.s1.size ≤ 9223372036854775807
  hmn : x.mn < 4294967296
  hpf : x.pf < 4294967296
  hmx : x.mx < 4294967296
  r1 : BRow w x.a1 x.c1 x.d1
  l1 : x.d1.length = x.n1
  b1 : x.n1 ≤ 1048576
  h2 : x.s2.size ≤ 9223372036854775807
  r2 : U16s w x.a2 x.ks
  l2 : x.ks.length = x.n2
  h3 : x.s3.size ≤ 9223372036854775807
  r3 : Strs w x.a3 x.qs
  l3 : x.qs.length = x.n3
  b3 : x.n3 ≤ 1048576
  hmc : x.mc < 4294967296
  h4 : x.s4.size ≤ 9223372036854775807
  h5 : x.s5.size ≤ 9223372036854775807
  r5 : BRow w x.a5 x.c5 x.m5
  l5 : x.m5.length = x.n5
  b5 : x.n5 ≤ 1048576
  hcx : x.cx < 4294967296
  r6 : Runs w x.a6 x.rs
  l6 : x.rs.length = x.n6
  b6 : x.n6 ≤ 1048576
  hec : x.ec < 4294967296
  h7 : x.s7.size ≤ 9223372036854775807
  hea : x.ea < 18446744073709551616
  hoff : x.off < 18446744073709551616
  r8 : BRow w x.a8 x.c8 x.m8
  l8 : x.m8.length = x.n8
  b8 : x.n8 ≤ 1048576
  hho : x.ho < 18446744073709551616
  hln : x.ln < 4294967296
theorem Bod.ok.later {x : Bod} {w w' : World} (h : x.ok w) (hb : Below w.heap.size w w') : x.ok w' :=
  { h with r1 := h.r1.later hb, r2 := h.r2.later hb, r3 := h.r3.later hb, r5 := h.r5.later hb, r6 := h.r6.later hb, r8 := h.r8.later hb }
def Bod.res (x : Bod) : List (List Nat × Nat) := [rInfoC x.k x.sz x.fl x.s1 x.mn x.pf x.mx x.d1, rAskC x.s2 x.ks, rMetasC x.s3 x.qs, rMetaC x.mc x.s4, rServerC x.s5 x.m5, rStatusC x.wide x.cx x.rs, rErrorC x.ec x.s7 x.pl x.ea, rDataC x.off x.m8, (hoL x.ho x.ln, 0)]
/-- an answer of Pack -/
structure Rp where
  ao : Option Addr
  n : Nat
  cap : Nat
  E : Nat
  L : List Nat
def Rp.cells (r : Rp) : List Value := [.slice r.ao r.n r.cap, .int .i64 (r.E : Int)]
/-- what was packed so far -/
structure Pks (w W : World) (v : Value) (l : List Rp) : Prop where
  own : W.ownsRow w.heap.size 52 2 v l.length (l.flatMap Rp.cells)
  rows : ∀ r ∈ l, W.ownsRow w.heap.size 5 1 (.slice r.ao r.n r.cap) r.n (r.L.map bv) ∧ r.L.length = r.n ∧ ∀ y ∈ r.L, y < 256
  bel : Below w.heap.size w W
theorem owns_type2 {w : World} {base e n size : Nat} {v : Value} {xs : List Value} (h : w.ownsRow base e size v n xs) (g : Nat) (hg : v.ownBlock = some g) : (∃ cur, w.heap[g]? = some (.cells cur e (0, 0))) ∧ base ≤ g ∧ g < w.heap.size := by
  rcases h.2 with ⟨hv, _⟩ | ⟨g', cap, cur, hv, hb, hc, _⟩
  · subst hv; simp [Value.ownBlock] at hg
  · subst hv
    have e : g' = g := by simpa [Value.ownBlock] using hg
    subst e
    exact ⟨⟨cur, hc⟩, hb, block_lt hc⟩
theorem owns_same2 {w w' : World} {base e n size : Nat} {v : Value} {xs : List Value} (h : w.ownsRow base e size v n xs) (hs : ∀ g, v.ownBlock = some g → w'.heap[g]? = w.heap[g]?) : w'.ownsRow base e size v n xs := by
  refine ⟨h.1, ?_⟩
  rcases h.2 with h1 | ⟨g, cap, cur, hv, hb, hc, h4, h5, h6, h7⟩
  · exact .inl h1
  · exact .inr ⟨g, cap, cur, hv, hb, by rw [hs g (by rw [hv]; rfl)]; exact hc, h4, h5, h6, h7⟩
theorem owns_form2 {w : World} {base e n size : Nat} {v : Value} {xs : List Value} (h : w.ownsRow base e size v n xs) : ∃ ao cap, v = .slice ao n cap := by
  rcases h.2 with ⟨hv, h0⟩ | ⟨g, cap, cur, hv, _⟩
  · exact ⟨none, 0, by rw [hv, h0]⟩
  · exact ⟨_, _, hv⟩
theorem Pks.nil (w : World) : Pks w w (.slice none 0 0) [] := ⟨World.ownsRow_nil _ _ _ _, by simp, Below.refl _ _⟩
theorem Pks.later {w W W' : World} {v : Value} {l : List Rp} (h : Pks w W v l) (k : Below W.heap.size W W') : Pks w W' v l :=
  ⟨owns_same2 h.own (fun g hg => k.block g (owns_type2 h.own g hg).2.2), fun r hr => ⟨owns_same (h.rows r hr).1 (fun g hg => k.block g (owns_lt (h.rows r hr).1 g hg).1), (h.rows r hr).2⟩, h.bel.trans (k.mono h.bel.size)⟩
/-- one more: its row was made in between, then the list was grown -/
theorem Pks.add {w W W1 W2 w3 : World} {v v' : Value} {l : List Rp} {ao : Option Addr} {n cap E : Nat} {L : List Nat} (h : Pks w W v l) (hr : Row W W1 ao cap L) (hn : L.length = n) (hb : Below W1.heap.size W1 W2)
    (ho : w3.ownsRow w.heap.size 52 2 v' (l.length + 1) (l.flatMap Rp.cells ++ [.slice ao n cap, .int .i64 (E : Int)])) (hg : W2.grownBy w3 v.ownBlock) : Pks w w3 v' (l ++ [⟨ao, n, cap, E, L⟩]) := by
  have h2 := (h.later hr.bel).later hb
  have hnew : W2.ownsRow w.heap.size 5 1 (.slice ao n cap) n (L.map bv) := by
    subst hn
    exact owns_same (owns_mono hr.own h.bel.size) (fun g hg => hb.block g (owns_lt hr.own g hg).1)
  have hkeep : ∀ (u : Value) (m : Nat) (xs : List Value), W2.ownsRow w.heap.size 5 1 u m xs → w3.ownsRow w.heap.size 5 1 u m xs := fun u m xs hu => owns_same hu (fun g hg' => by
    refine hg.block g (owns_lt hu g hg').1 (fun e => ?_)
    obtain ⟨⟨cur, e1⟩, _, _⟩ := owns_type2 h2.own g e.symm
    obtain ⟨cur2, e2⟩ := owns_type hu g hg'
    rw [e1] at e2; simp at e2)
  refine ⟨by simpa [Rp.cells] using ho, fun r hm => ?_, h2.bel.grown hg h2.bel.size (fun g hg' => (owns_type2 h2.own g hg').2.1)⟩
  rcases List.mem_append.1 hm with hm | hm
  · exact ⟨hkeep _ _ _ (h2.rows r hm).1, (h2.rows r hm).2⟩
  · simp at hm; subst hm
    exact ⟨hkeep _ _ _ hnew, hn, hr.lt⟩
/-- a box of another type stays -/
theorem Pks.box {w W w3 : World} {v : Value} {l : List Rp} (h : Pks w W v l) (hg : W.grownBy w3 v.ownBlock) {b : Nat} {cs : Array Value} {t : TypeId} (hb : W.heap[b]? = some (.cells cs t (0, 0))) (ht : t ≠ 52) : w3.heap[b]? = some (.cells cs t (0, 0)) := by
  rw [hg.block b (block_lt hb) (fun e => ?_)]
  · exact hb
  · obtain ⟨⟨cur, e1⟩, _, _⟩ := owns_type2 h.own b e.symm
    rw [hb] at e1; simp at e1; exact ht e1.2
theorem infoPk : (Tryd.prog.info? 52).map (fun i => (i.zero, i.size, i.bytes)) = some (some (.agg #[.slice none 0 0, .int .i64 0]), 2, 32) := by kernel_rfl
end Go.Proofs.YtjikibhhhchgeaaDoor

namespace Go.Proofs.YtjikibhhhchgeaaDoor
open Go.RowKit
set_option linter.unusedVariables false
set_option linter.unusedSimpArgs false
set_option maxRecDepth 100000
theorem pMetaC (c : Nat) (s : ByteArray) (w : World) (h1 : c < 4294967296) (hs : s.size ≤ 9223372036854775807) (hT : Tabs w) :
    Calls Tryd.prog 34 #[.agg #[.int .u32 (c : Int), .string s]] w fun e w' => PkC w (rMetaC c s) e w' := by
  unfold rMetaC
  cases ht : tx s with
  | true => exact packMeta_ok c s w h1 hT ht
  | false => exact packMeta_bad c s w hs hT ht
theorem pDataC (off n : Nat) (da : Option Addr) (dc : Nat) (m : List Nat) (w : World) (h1 : off < 18446744073709551616) (hr : BRow w da dc m) (hm0 : m.length = n) (hn2 : n ≤ 1048576) :
    Calls Tryd.prog 29 #[.agg #[.int .u64 (off : Int), .slice da n dc]] w fun e w' => PkC w (rDataC off m) e w' := by
  by_cases hm : m = []
  · subst hm; simp at hm0; subst hm0
    exact packData_bad off da dc w
  · have hp : 0 < n := by rw [← hm0]; exact List.length_pos_iff.2 hm
    unfold rDataC; rw [if_neg hm]
    exact packData_ok off n da dc m w h1 hr hm0 hp (by omega)
theorem pErrorC (c : Nat) (s : ByteArray) (pl : Bool) (a : Nat) (w : World) (h1 : c < 4294967296) (h2 : a < 18446744073709551616) (hs : s.size ≤ 9223372036854775807) (hT : Tabs w) :
    Calls Tryd.prog 37 #[.agg #[.int .u32 (c : Int), .string s, .bool pl, .int .u64 (a : Int)]] w fun e w' => PkC w (rErrorC c s pl a) e w' := by
  unfold rErrorC
  cases ht : tx s with
  | false => exact packError_bad c s pl a w hs hT ht
  | true =>
    cases pl with
    | true => exact packError_ok1 c s a w h1 h2 hT ht
    | false =>
      by_cases ha : a = 0
      · simp only [if_true, Bool.false_eq_true, if_false, if_pos ha]
        exact packError_ok0 c s a w h1 ha hT ht
      · simp only [if_true, Bool.false_eq_true, if_false, if_neg ha]
        exact packError_at c s a w hs hT ht ha
theorem pAskC (s : ByteArray) (ia : Option Addr) (k ic : Nat) (ks : List Nat) (w : World) (hu : U16s w ia ks) (hks : ks.length = k) (hs : s.size ≤ 9223372036854775807) (hT : Tabs w) :
    Calls Tryd.prog 32 #[.agg #[.string s, .slice ia k ic]] w fun e w' => PkC w (rAskC s ks) e w' := by
  unfold rAskC
  rw [hks]
  cases ht : tx s with
  | false => exact packInfoReq_bad s ia k ic w hs hT ht
  | true =>
    by_cases hk : k ≤ 64
    · simp only [if_true, if_pos hk]
      exact packInfoReq_ok s ia k ic ks w hu hks hk hT ht
    · simp only [if_true, if_neg hk]
      exact packInfoReq_many s ia k ic w hs hT ht (by omega)
theorem pMetasC (s : ByteArray) (qa : Option Addr) (k qc : Nat) (qs : List ByteArray) (w : World) (hq : Strs w qa qs) (hks : qs.length = k) (hk : k ≤ 1048576) (hs : s.size ≤ 9223372036854775807) (hT : Tabs w) :
    Calls Tryd.prog 33 #[.agg #[.string s, .slice qa k qc]] w fun e w' => PkC w (rMetasC s qs) e w' := by
  unfold rMetasC
  rw [hks]
  cases ht : tx s with
  | false => exact packMetaReq_bad s qa k qc w hs hT ht
  | true =>
    cases htx : txs qs with
    | false => exact packMetaReq_bad2 s qa k qc qs w hq hks hk hs hT ht htx
    | true =>
      by_cases hk2 : k ≤ 16
      · simp only [if_true, if_pos hk2]
        exact packMetaReq_ok s qa k qc qs w hq hks hk2 hT ht htx
      · simp only [if_true, if_neg hk2]
        exact packMetaReq_many s qa k qc qs w hq hks hk (by omega) hs hT ht htx
theorem pStatusC (cx : Nat) (ra : Option Addr) (n rc : Nat) (wide : Bool) (rs : List (Nat × Nat)) (w : World) (hc : cx < 4294967296) (h : Runs w ra rs) (hn : rs.length = n) (hn2 : n ≤ 1048576) :
    Calls Tryd.prog 36 #[.agg #[.int .u32 (cx : Int), .slice ra n rc], .bool wide] w fun e w' => PkC w (rStatusC wide cx rs) e w' := by
  unfold rStatusC
  rw [hn]
  cases hf : (fitA wide rs && decide (0 < n)) with
  | false => exact packStatus_bad cx ra n rc wide rs w h hn hn2 hf
  | true =>
    have hf1 : fitA wide rs = true := by simp at hf; exact hf.1
    have hf2 : 0 < n := by simp at hf; exact hf.2
    cases wide with
    | true => exact packStatus_ok1 cx ra n rc rs w hc h hn hn2 hf2 hf1
    | false => exact packStatus_ok0 cx ra n rc rs w hc h hn hn2 hf2 hf1
theorem pServerC (s : ByteArray) (n : Nat) (da : Option Addr) (dc : Nat) (m : List Nat) (w : World) (hr : BRow w da dc m) (hm0 : m.length = n) (hn2 : n ≤ 1048576) (hs : s.size ≤ 9223372036854775807) (hT : Tabs w) :
    Calls Tryd.prog 35 #[.agg #[.string s, .slice da n dc]] w fun e w' => PkC w (rServerC s m) e w' := by
  unfold rServerC
  cases ht : tx s with
  | true => exact packServer_ok s n da dc m w hr hm0 (by omega) hT ht
  | false => exact packServer_bad s n da dc w hs hT ht
theorem pInfoC (k sz fl : Nat) (s : ByteArray) (mn pf mx : Nat) (da : Option Addr) (n dc : Nat) (d : List Nat) (w : World) (hk : k < 65536) (hsz : sz < 18446744073709551616) (hfl : fl < 65536) (hs : s.size ≤ 9223372036854775807) (hmn : mn < 4294967296) (hpf : pf < 4294967296) (hmx : mx < 4294967296) (hr : BRow w da dc d) (hd : d.length = n) (hn : n ≤ 1048576) (hT : Tabs w) :
    Calls Tryd.prog 31 #[.agg #[.int .u16 (k : Int), .int .u64 (sz : Int), .int .u16 (fl : Int), .string s, .int .u32 (mn : Int), .int .u32 (pf : Int), .int .u32 (mx : Int), .slice da n dc]] w fun e w' => PkC w (rInfoC k sz fl s mn pf mx d) e w' := by
  unfold rInfoC
  rw [hd]
  cases hf : ifB k sz fl s mn pf mx n with
  | false => exact packInfo_bad k sz fl s mn pf mx da n dc d w hk hsz hfl hs hmn hpf hmx hr hd hn hT hf
  | true =>
    by_cases h0 : k = 0
    · exact packInfo_0 k sz fl s mn pf mx da n dc d w hk hsz hfl hs hmn hpf hmx hr hd hn hT hf h0
    by_cases h1 : k = 1
    · exact packInfo_1 k sz fl s mn pf mx da n dc d w hk hsz hfl hs hmn hpf hmx hr hd hn hT hf h1
    by_cases h2 : k = 2
    · exact packInfo_2 k sz fl s mn pf mx da n dc d w hk hsz hfl hs hmn hpf hmx hr hd hn hT hf h2
    by_cases h3 : k = 3
    · exact packInfo_3 k sz fl s mn pf mx da n dc d w hk hsz hfl hs hmn hpf hmx hr hd hn hT hf h3
    exact packInfo_o k sz fl s mn pf mx da n dc d w hk hsz hfl hs hmn hpf hmx hr hd hn hT hf ⟨h0, h1, h2, h3⟩
end Go.Proofs.YtjikibhhhchgeaaDoor

namespace Go.Proofs.YtjikibhhhchgeaaDoor
open Go.RowKit
set_option linter.unusedVariables false
set_option linter.unusedSimpArgs false
set_option maxRecDepth 100000
set_option maxHeartbeats 4000000 in
theorem rStatus_ok1 (cx : Nat) (ra : Option Addr) (n rc : Nat) (rs : List (Nat × Nat)) (w : World) (hc : cx < 4294967296) (h : Runs w ra rs) (hn : rs.length = n) (hn2 : n ≤ 1048576) (hn0 : 0 < n) (hfit : fitA true rs = true) :
    Calls Tryd.prog 43 #[.agg #[.int .u32 (cx : Int), .slice ra n rc], .bool true] w fun e w' => Pk w (stL true cx rs) 0 e w' := by
  obtain ⟨i0, hi, hz0, hz1, hz2⟩ := info_parts Tryd.info5
  have HR : Hid (Runs w ra rs) := h
  have HN : Hid (rs.length = n) := hn
  have HF : Hid (fitA true rs = true) := hfit
  have hwc : IntKind.u64.wrap (cx : Int) = (cx : Int) := by rw [IntKind.wrap_u64]; omega
  have hwk : IntKind.u64.wrap (n : Int) = (n : Int) := by rw [IntKind.wrap_u64]; omega
  have f0 : ((n : Int) == 0) = false := by rw [beq_eq_false_iff_ne]; omega
  clear h hn hfit
  have hx := mkb1 w #[.int .u32 (cx : Int), .slice ra n rc] 40
  go_enter Tryd.func43, Tryd.ntmps43
  go_upto_region 1 with fail
  generalize w.alloc (Obj.cells #[.int .u32 (cx : Int), .slice ra n rc] 40) = W1 at *
  have HY : Hid (Bx1 w W1 #[.int .u32 (cx : Int), .slice ra n rc] 40) := hx
  clear hx
  have k0 := blk_at HY.out.a 0
  have k1 := blk_at HY.out.a 1
  simp at k0 k1
  go_wp2_with fail
  refine (rbig_any cx 4 W1 (by omega) (by decide)).mono ?_
  rintro e W2 ⟨rfl, hob, hbb⟩
  have H2 : Hid (Rn w W2 (some ⟨W1.heap.size, 0, none⟩) 4 4 (bigTo cx 4 4)) := ⟨owns_mono hob HY.out.bel.size, bigTo_length _ _ _, bigTo_lt _ _ _, HY.out.bel.trans (hbb.mono HY.out.bel.size)⟩
  have HY2 : Hid (W2.heap[w.heap.size]? = some (.cells #[.int .u32 (cx : Int), .slice ra n rc] 40 (0, 0))) := box_later HY.out.a hbb
  clear hob hbb k0 k1
  have q1 := blk_at HY2.out 1
  simp at q1
  go_wp2_with fail
  refine (rbig_any n 4 W2 (by omega) (by decide)).mono ?_
  rintro e W3b ⟨rfl, hob, hbb⟩
  have HBB : Hid (Below W2.heap.size W2 W3b ∧ BRow W3b (some ⟨W2.heap.size, 0, none⟩) 4 (bigTo n 4 4)) := ⟨hbb, bigRow (by decide) hob⟩
  have HRb : Hid (Rn w W3b (some ⟨W1.heap.size, 0, none⟩) 4 4 (bigTo cx 4 4)) := H2.out.later hbb
  clear hob hbb
  go_wp2_with (at_builtin; refine wpList_append_two _ rfl (.tmp 19) (.tmp 24) 25 rfl w.heap.size 5 i0 (.int .u8 0) 1 Tryd.underlying25 hi hz0 hz1 hz2 rfl (.slice (some ⟨W1.heap.size, 0, none⟩) 4 4) 4 ((bigTo cx 4 4).map bv) rfl HRb.out.own (some ⟨W2.heap.size, 0, none⟩) 4 4 ((bigTo n 4 4).map bv) rfl HBB.out.2.nil' (by simp [bigTo_length]) HBB.out.2.news (bv_one _) (by unfold maxLen; omega) (by omega) HRb.out.bel.size ?_)
  intro v' W3 ho hg hf
  obtain ⟨aW3, cW3, rfl⟩ := owns_form ho
  have HW3 : Hid (Rn w W3 aW3 cW3 (4 + 4) ((bigTo cx 4 4) ++ bigTo n 4 4)) := HRb.out.appended ho hg (bigTo_lt _ _ _) (bigTo_length _ _ _)
  have HYW3 : Hid (W3.heap[w.heap.size]? = some (.cells #[.int .u32 (cx : Int), .slice ra n rc] 40 (0, 0))) := HRb.out.box hg (box_later HY2.out HBB.out.1) (by decide)
  clear ho hg hf HBB HRb
  clear q1
  have H4 : Hid (Rn w W3 aW3 cW3 8 (bigTo cx 4 4 ++ bigTo n 4 4)) := HW3.out
  have HY4 : Hid _ := HYW3.out
  have q1 := blk_at HY4.out 1
  simp at q1
  go_wp2
  clear q1
  go_loopw [6, 8] (fun bvv iv wr => ∃ (j a5 c5 m5 : _), j ≤ n ∧ iv = .int .i64 (j : Nat) ∧ bvv = .slice a5 m5 c5 ∧ m5 ≤ 8 + 16 * j ∧ Hid (Rn w wr a5 c5 m5 ((bigTo cx 4 4 ++ bigTo n 4 4) ++ runL true (rs.take j)) ∧ wr.heap[w.heap.size]? = some (.cells #[.int .u32 (cx : Int), .slice ra n rc] 40 (0, 0)) ∧ fitA true (rs.take j) = true)) (fun _ iv _ => n - (intOf iv).toNat)
  case atStart => exact ⟨0, aW3, cW3, 8, Nat.zero_le _, rfl, rfl, by omega, by simpa [runL] using H4.out, HY4.out, by simp [fitA]⟩
  case round =>
    obtain ⟨j, a5, c5, m5, hj, rfl, rfl, hm5, HI⟩ := hrel
    have q1 := blk_at HI.out.2.1 1
    simp at q1
    by_cases hlt : j < n
    · have hne : rs ≠ [] := by rintro rfl; have := HN.out; simp at this; omega
      obtain ⟨b, off, rfl, hrow⟩ := (HR.out.later HI.out.1.bel).at_ hne
      have hjl : j < rs.length := by rw [HN.out]; exact hlt
      obtain ⟨g0, g1⟩ := hrow j hjl
      obtain ⟨hl, hf⟩ := HR.out.lt _ (List.getElem_mem hjl)
      have HT1 : Hid (fit1 true rs[j] = true → fitA true (rs.take (j + 1)) = true) := fitA_take HI.out.2.2 hjl
      have HT0 : Hid (fit1 true rs[j] = false → fitA true rs = false) := fitA_bad hjl
      have HT9 : Hid (runL true (rs.take (j + 1)) = runL true (rs.take j) ++ nL rs[j].1 true ++ nL rs[j].2 true) := by show _ = _; rw [List.take_add_one, List.getElem?_eq_getElem hjl]; exact runL_snoc _ _ _
      obtain ⟨⟨l, f⟩, hp⟩ : ∃ x, rs[j] = x := ⟨_, rfl⟩
      rw [hp] at g0 g1 hl hf HT1 HT0 HT9
      simp only at g0 g1 hl hf
      clear hrow hp hne hjl
      have HE1 : Hid (Rn w (wr.alloc (.cells #[.int .u64 (l : Int), .int .u64 (f : Int)] 135)) a5 c5 m5 ((bigTo cx 4 4 ++ bigTo n 4 4) ++ runL true (rs.take j))) := HI.out.1.later (below1 wr _)
      have HB1 : Hid ((wr.alloc (.cells #[.int .u64 (l : Int), .int .u64 (f : Int)] 135)).heap[wr.heap.size]? = some (.cells #[.int .u64 (l : Int), .int .u64 (f : Int)] 135 (0, 0))) := heap_new _ _
      have HB2 : Hid ((wr.alloc (.cells #[.int .u64 (l : Int), .int .u64 (f : Int)] 135)).heap[w.heap.size]? = some (.cells #[.int .u32 (cx : Int), .slice (some ⟨b, off, none⟩) n rc] 40 (0, 0))) := box_later HI.out.2.1 (below1 wr _)
      go_upto_region 12 with fail
      clear g0 g1 q1
      generalize wr.alloc (Obj.cells #[.int .u64 (l : Int), .int .u64 (f : Int)] 135) = Wr at *
      generalize wr.heap.size = rb at *
      have y0 := blk_at HB1.out 0
      have y1 := blk_at HB1.out 1
      simp at y0 y1
      cases hft : fit1 true (l, f) with
      | false =>
        exfalso; simp [fit1] at hft
      | true =>
        have HNL : Hid (layF [(l, 8), (f, 8)] ++ [] = nL l true ++ nL f true) := by show _ = _; simp [layF, nL]
        have HFT : Hid (fitA true (rs.take (j + 1)) = true) := HT1.out hft
        clear hft HT1 HT0
        go_wp2_with fail
        clear y0 y1
        refine (layR (w := w) [(l, 8), (f, 8)] 2 _ rfl HE1.out.bel rfl (by simp; omega) (by decide) (Below.refl _ _) none 0 0 [] (brow_nil' _) rfl (by omega) (nL l true ++ nL f true) HNL.out).mono ?_
        rintro e Wz ⟨az, cz, mz, rfl, hmz, hrz, hbz⟩
        have hmz2 : mz ≤ 16 := by rw [← hmz]; have h1 := nL_le l true; have h2 := nL_le f true; simp; omega
        have HMr : Hid (BRow Wz az cz (nL l true ++ nL f true)) := hrz.brow (by omega)
        have HMl : Hid ((nL l true ++ nL f true).length = mz) := hmz
        have HRb : Hid (Rn w Wz a5 c5 m5 ((bigTo cx 4 4 ++ bigTo n 4 4) ++ runL true (rs.take j))) := HE1.out.later hbz
        have HBz : Hid (Wz.heap[w.heap.size]? = some (.cells #[.int .u32 (cx : Int), .slice (some ⟨b, off, none⟩) n rc] 40 (0, 0))) := box_later HB2.out hbz
        obtain ⟨LL, hLL⟩ : ∃ LL, (bigTo cx 4 4 ++ bigTo n 4 4) ++ runL true (rs.take j) = LL := ⟨_, rfl⟩
        rw [hLL] at HRb
        obtain ⟨MM, hMM⟩ : ∃ MM, nL l true ++ nL f true = MM := ⟨_, rfl⟩
        rw [hMM] at HMr HMl
        have HLL : Hid ((bigTo cx 4 4 ++ bigTo n 4 4) ++ runL true (rs.take j) = LL) := hLL
        have HMM : Hid (nL l true ++ nL f true = MM) := hMM
        clear hmz hrz hbz HE1 HB1 HB2 hLL hMM HNL
        go_wp2_with (at_builtin; refine wpList_append_two _ rfl (.tmp 50) (.tmp 60) 25 rfl w.heap.size 5 i0 (.int .u8 0) 1 Tryd.underlying25 hi hz0 hz1 hz2 rfl (.slice a5 m5 c5) m5 ((LL).map bv) rfl HRb.out.own az mz cz ((MM).map bv) rfl (fun e => by have h := HMr.out.nil e; have h2 := HMl.out; rw [h.1] at h2; exact ⟨by simpa using h2.symm, h.2⟩) (by rw [List.length_map]; exact HMl.out) HMr.out.news (bv_one _) (by unfold maxLen; omega) (by omega) HRb.out.bel.size ?_)
        intro v' Wx ho hg hf
        obtain ⟨aWx, cWx, rfl⟩ := owns_form ho
        have HWx : Hid (Rn w Wx aWx cWx (m5 + mz) ((LL) ++ (MM))) := HRb.out.appended ho hg HMr.out.lt HMl.out
        have HYx : Hid (Wx.heap[w.heap.size]? = some (.cells #[.int .u32 (cx : Int), .slice (some ⟨b, off, none⟩) n rc] 40 (0, 0))) := HRb.out.box hg HBz.out (by decide)
        have HN6 : Hid (Rn w Wx aWx cWx (m5 + mz) ((bigTo cx 4 4 ++ bigTo n 4 4) ++ runL true (rs.take (j + 1)))) := by
          have h := HWx.out
          rw [← HLL.out, ← HMM.out, List.append_assoc, ← List.append_assoc (runL true (rs.take j)), ← HT9.out] at h
          exact h
        clear ho hg hf HWx HRb HMr HMl
        go_wp2
        go_roundw
        case rel => exact ⟨j + 1, aWx, cWx, m5 + mz, by omega, by go_num, rfl, by omega, HN6.out, HYx.out, HFT.out⟩
        case measure => simp [intOf]; omega
    · have e9 : (bigTo cx 4 4 ++ bigTo n 4 4) ++ runL true (rs.take j) = stL true cx rs := by
        have e1 : rs.take j = rs := List.take_of_length_le (by rw [HN.out]; omega)
        rw [e1]; simp [stL, HN.out]
      have h9 := HI.out.1
      rw [e9] at h9
      have H9 : Hid (Rn w wr a5 c5 m5 (stL true cx rs)) := h9
      clear h9 e9
      go_wp2
      go_ret2
      exact ⟨_, _, _, rfl, H9.out.len, H9.out.row⟩
set_option maxHeartbeats 4000000 in
theorem rStatus_ok0 (cx : Nat) (ra : Option Addr) (n rc : Nat) (rs : List (Nat × Nat)) (w : World) (hc : cx < 4294967296) (h : Runs w ra rs) (hn : rs.length = n) (hn2 : n ≤ 1048576) (hn0 : 0 < n) (hfit : fitA false rs = true) :
    Calls Tryd.prog 43 #[.agg #[.int .u32 (cx : Int), .slice ra n rc], .bool false] w fun e w' => Pk w (stL false cx rs) 0 e w' := by
  obtain ⟨i0, hi, hz0, hz1, hz2⟩ := info_parts Tryd.info5
  have HR : Hid (Runs w ra rs) := h
  have HN : Hid (rs.length = n) := hn
  have HF : Hid (fitA false rs = true) := hfit
  have hwc : IntKind.u64.wrap (cx : Int) = (cx : Int) := by rw [IntKind.wrap_u64]; omega
  have hwk : IntKind.u64.wrap (n : Int) = (n : Int) := by rw [IntKind.wrap_u64]; omega
  have f0 : ((n : Int) == 0) = false := by rw [beq_eq_false_iff_ne]; omega
  clear h hn hfit
  have hx := mkb1 w #[.int .u32 (cx : Int), .slice ra n rc] 40
  go_enter Tryd.func43, Tryd.ntmps43
  go_upto_region 1 with fail
  generalize w.alloc (Obj.cells #[.int .u32 (cx : Int), .slice ra n rc] 40) = W1 at *
  have HY : Hid (Bx1 w W1 #[.int .u32 (cx : Int), .slice ra n rc] 40) := hx
  clear hx
  have k0 := blk_at HY.out.a 0
  have k1 := blk_at HY.out.a 1
  simp at k0 k1
  go_wp2_with fail
  refine (rbig_any cx 4 W1 (by omega) (by decide)).mono ?_
  rintro e W2 ⟨rfl, hob, hbb⟩
  have H2 : Hid (Rn w W2 (some ⟨W1.heap.size, 0, none⟩) 4 4 (bigTo cx 4 4)) := ⟨owns_mono hob HY.out.bel.size, bigTo_length _ _ _, bigTo_lt _ _ _, HY.out.bel.trans (hbb.mono HY.out.bel.size)⟩
  have HY2 : Hid (W2.heap[w.heap.size]? = some (.cells #[.int .u32 (cx : Int), .slice ra n rc] 40 (0, 0))) := box_later HY.out.a hbb
  clear hob hbb k0 k1
  have q1 := blk_at HY2.out 1
  simp at q1
  go_wp2
  clear q1
  go_loopw [6, 8] (fun bvv iv wr => ∃ (j a5 c5 m5 : _), j ≤ n ∧ iv = .int .i64 (j : Nat) ∧ bvv = .slice a5 m5 c5 ∧ m5 ≤ 8 + 16 * j ∧ Hid (Rn w wr a5 c5 m5 ((bigTo cx 4 4) ++ runL false (rs.take j)) ∧ wr.heap[w.heap.size]? = some (.cells #[.int .u32 (cx : Int), .slice ra n rc] 40 (0, 0)) ∧ fitA false (rs.take j) = true)) (fun _ iv _ => n - (intOf iv).toNat)
  case atStart => exact ⟨0, (some ⟨W1.heap.size, 0, none⟩), 4, 4, Nat.zero_le _, rfl, rfl, by omega, by simpa [runL] using H2.out, HY2.out, by simp [fitA]⟩
  case round =>
    obtain ⟨j, a5, c5, m5, hj, rfl, rfl, hm5, HI⟩ := hrel
    have q1 := blk_at HI.out.2.1 1
    simp at q1
    by_cases hlt : j < n
    · have hne : rs ≠ [] := by rintro rfl; have := HN.out; simp at this; omega
      obtain ⟨b, off, rfl, hrow⟩ := (HR.out.later HI.out.1.bel).at_ hne
      have hjl : j < rs.length := by rw [HN.out]; exact hlt
      obtain ⟨g0, g1⟩ := hrow j hjl
      obtain ⟨hl, hf⟩ := HR.out.lt _ (List.getElem_mem hjl)
      have HT1 : Hid (fit1 false rs[j] = true → fitA false (rs.take (j + 1)) = true) := fitA_take HI.out.2.2 hjl
      have HT0 : Hid (fit1 false rs[j] = false → fitA false rs = false) := fitA_bad hjl
      have HT9 : Hid (runL false (rs.take (j + 1)) = runL false (rs.take j) ++ nL rs[j].1 false ++ nL rs[j].2 false) := by show _ = _; rw [List.take_add_one, List.getElem?_eq_getElem hjl]; exact runL_snoc _ _ _
      obtain ⟨⟨l, f⟩, hp⟩ : ∃ x, rs[j] = x := ⟨_, rfl⟩
      rw [hp] at g0 g1 hl hf HT1 HT0 HT9
      simp only at g0 g1 hl hf
      clear hrow hp hne hjl
      have HE1 : Hid (Rn w (wr.alloc (.cells #[.int .u64 (l : Int), .int .u64 (f : Int)] 135)) a5 c5 m5 ((bigTo cx 4 4) ++ runL false (rs.take j))) := HI.out.1.later (below1 wr _)
      have HB1 : Hid ((wr.alloc (.cells #[.int .u64 (l : Int), .int .u64 (f : Int)] 135)).heap[wr.heap.size]? = some (.cells #[.int .u64 (l : Int), .int .u64 (f : Int)] 135 (0, 0))) := heap_new _ _
      have HB2 : Hid ((wr.alloc (.cells #[.int .u64 (l : Int), .int .u64 (f : Int)] 135)).heap[w.heap.size]? = some (.cells #[.int .u32 (cx : Int), .slice (some ⟨b, off, none⟩) n rc] 40 (0, 0))) := box_later HI.out.2.1 (below1 wr _)
      go_upto_region 12 with fail
      clear g0 g1 q1
      generalize wr.alloc (Obj.cells #[.int .u64 (l : Int), .int .u64 (f : Int)] 135) = Wr at *
      generalize wr.heap.size = rb at *
      have y0 := blk_at HB1.out 0
      have y1 := blk_at HB1.out 1
      simp at y0 y1
      cases hft : fit1 false (l, f) with
      | false =>
        exfalso; have h1 := HT0.out hft; rw [HF.out] at h1; cases h1
      | true =>
        have hff : l ≤ 4294967295 ∧ f ≤ 4294967295 := by simp [fit1] at hft; omega
        have d1 : decide ((4294967295 : Int) < (l : Int)) = false := by simp; omega
        have d2 : decide ((4294967295 : Int) < (f : Int)) = false := by simp; omega
        have hml : l % 4294967296 = l := Nat.mod_eq_of_lt (by omega)
        have hmf : f % 4294967296 = f := Nat.mod_eq_of_lt (by omega)
        have HNL : Hid (layF [(l, 4), (f, 4)] ++ [] = nL l false ++ nL f false) := by show _ = _; simp [layF, nL, hml, hmf]
        clear hml hmf hff
        have HFT : Hid (fitA false (rs.take (j + 1)) = true) := HT1.out hft
        clear hft HT1 HT0
        go_wp2_with fail
        clear y0 y1
        refine (layR (w := w) [(l, 4), (f, 4)] 2 _ rfl HE1.out.bel rfl (by simp; omega) (by decide) (Below.refl _ _) none 0 0 [] (brow_nil' _) rfl (by omega) (nL l false ++ nL f false) HNL.out).mono ?_
        rintro e Wz ⟨az, cz, mz, rfl, hmz, hrz, hbz⟩
        have hmz2 : mz ≤ 16 := by rw [← hmz]; have h1 := nL_le l false; have h2 := nL_le f false; simp; omega
        have HMr : Hid (BRow Wz az cz (nL l false ++ nL f false)) := hrz.brow (by omega)
        have HMl : Hid ((nL l false ++ nL f false).length = mz) := hmz
        have HRb : Hid (Rn w Wz a5 c5 m5 ((bigTo cx 4 4) ++ runL false (rs.take j))) := HE1.out.later hbz
        have HBz : Hid (Wz.heap[w.heap.size]? = some (.cells #[.int .u32 (cx : Int), .slice (some ⟨b, off, none⟩) n rc] 40 (0, 0))) := box_later HB2.out hbz
        obtain ⟨LL, hLL⟩ : ∃ LL, (bigTo cx 4 4) ++ runL false (rs.take j) = LL := ⟨_, rfl⟩
        rw [hLL] at HRb
        obtain ⟨MM, hMM⟩ : ∃ MM, nL l false ++ nL f false = MM := ⟨_, rfl⟩
        rw [hMM] at HMr HMl
        have HLL : Hid ((bigTo cx 4 4) ++ runL false (rs.take j) = LL) := hLL
        have HMM : Hid (nL l false ++ nL f false = MM) := hMM
        clear hmz hrz hbz HE1 HB1 HB2 hLL hMM HNL
        go_wp2_with (at_builtin; refine wpList_append_two _ rfl (.tmp 50) (.tmp 60) 25 rfl w.heap.size 5 i0 (.int .u8 0) 1 Tryd.underlying25 hi hz0 hz1 hz2 rfl (.slice a5 m5 c5) m5 ((LL).map bv) rfl HRb.out.own az mz cz ((MM).map bv) rfl (fun e => by have h := HMr.out.nil e; have h2 := HMl.out; rw [h.1] at h2; exact ⟨by simpa using h2.symm, h.2⟩) (by rw [List.length_map]; exact HMl.out) HMr.out.news (bv_one _) (by unfold maxLen; omega) (by omega) HRb.out.bel.size ?_)
        intro v' Wx ho hg hf
        obtain ⟨aWx, cWx, rfl⟩ := owns_form ho
        have HWx : Hid (Rn w Wx aWx cWx (m5 + mz) ((LL) ++ (MM))) := HRb.out.appended ho hg HMr.out.lt HMl.out
        have HYx : Hid (Wx.heap[w.heap.size]? = some (.cells #[.int .u32 (cx : Int), .slice (some ⟨b, off, none⟩) n rc] 40 (0, 0))) := HRb.out.box hg HBz.out (by decide)
        have HN6 : Hid (Rn w Wx aWx cWx (m5 + mz) ((bigTo cx 4 4) ++ runL false (rs.take (j + 1)))) := by
          have h := HWx.out
          rw [← HLL.out, ← HMM.out, List.append_assoc, ← List.append_assoc (runL false (rs.take j)), ← HT9.out] at h
          exact h
        clear ho hg hf HWx HRb HMr HMl
        go_wp2
        go_roundw
        case rel => exact ⟨j + 1, aWx, cWx, m5 + mz, by omega, by go_num, rfl, by omega, HN6.out, HYx.out, HFT.out⟩
        case measure => simp [intOf]; omega
    · have e9 : (bigTo cx 4 4) ++ runL false (rs.take j) = stL false cx rs := by
        have e1 : rs.take j = rs := List.take_of_length_le (by rw [HN.out]; omega)
        rw [e1]; simp [stL, HN.out]
      have h9 := HI.out.1
      rw [e9] at h9
      have H9 : Hid (Rn w wr a5 c5 m5 (stL false cx rs)) := h9
      clear h9 e9
      go_wp2
      go_ret2
      exact ⟨_, _, _, rfl, H9.out.len, H9.out.row⟩
set_option maxHeartbeats 4000000 in
theorem rStatus_no0 (cx : Nat) (ra : Option Addr) (n rc : Nat) (rs : List (Nat × Nat)) (w : World) (hc : cx < 4294967296) (h : Runs w ra rs) (hn : rs.length = n) (hn2 : n ≤ 1048576) (hn0 : 0 < n) (hfit : fitA false rs = false) :
    Calls Tryd.prog 43 #[.agg #[.int .u32 (cx : Int), .slice ra n rc], .bool false] w fun e w' => Pk w [] 81 e w' := by
  obtain ⟨i0, hi, hz0, hz1, hz2⟩ := info_parts Tryd.info5
  have HR : Hid (Runs w ra rs) := h
  have HN : Hid (rs.length = n) := hn
  have HF : Hid (fitA false rs = false) := hfit
  have hwc : IntKind.u64.wrap (cx : Int) = (cx : Int) := by rw [IntKind.wrap_u64]; omega
  have hwk : IntKind.u64.wrap (n : Int) = (n : Int) := by rw [IntKind.wrap_u64]; omega
  have f0 : ((n : Int) == 0) = false := by rw [beq_eq_false_iff_ne]; omega
  clear h hn hfit
  have hx := mkb1 w #[.int .u32 (cx : Int), .slice ra n rc] 40
  go_enter Tryd.func43, Tryd.ntmps43
  go_upto_region 1 with fail
  generalize w.alloc (Obj.cells #[.int .u32 (cx : Int), .slice ra n rc] 40) = W1 at *
  have HY : Hid (Bx1 w W1 #[.int .u32 (cx : Int), .slice ra n rc] 40) := hx
  clear hx
  have k0 := blk_at HY.out.a 0
  have k1 := blk_at HY.out.a 1
  simp at k0 k1
  go_wp2_with fail
  refine (rbig_any cx 4 W1 (by omega) (by decide)).mono ?_
  rintro e W2 ⟨rfl, hob, hbb⟩
  have H2 : Hid (Rn w W2 (some ⟨W1.heap.size, 0, none⟩) 4 4 (bigTo cx 4 4)) := ⟨owns_mono hob HY.out.bel.size, bigTo_length _ _ _, bigTo_lt _ _ _, HY.out.bel.trans (hbb.mono HY.out.bel.size)⟩
  have HY2 : Hid (W2.heap[w.heap.size]? = some (.cells #[.int .u32 (cx : Int), .slice ra n rc] 40 (0, 0))) := box_later HY.out.a hbb
  clear hob hbb k0 k1
  have q1 := blk_at HY2.out 1
  simp at q1
  go_wp2
  clear q1
  go_loopw [6, 8] (fun bvv iv wr => ∃ (j a5 c5 m5 : _), j ≤ n ∧ iv = .int .i64 (j : Nat) ∧ bvv = .slice a5 m5 c5 ∧ m5 ≤ 8 + 16 * j ∧ Hid (Rn w wr a5 c5 m5 ((bigTo cx 4 4) ++ runL false (rs.take j)) ∧ wr.heap[w.heap.size]? = some (.cells #[.int .u32 (cx : Int), .slice ra n rc] 40 (0, 0)) ∧ fitA false (rs.take j) = true)) (fun _ iv _ => n - (intOf iv).toNat)
  case atStart => exact ⟨0, (some ⟨W1.heap.size, 0, none⟩), 4, 4, Nat.zero_le _, rfl, rfl, by omega, by simpa [runL] using H2.out, HY2.out, by simp [fitA]⟩
  case round =>
    obtain ⟨j, a5, c5, m5, hj, rfl, rfl, hm5, HI⟩ := hrel
    have q1 := blk_at HI.out.2.1 1
    simp at q1
    by_cases hlt : j < n
    · have hne : rs ≠ [] := by rintro rfl; have := HN.out; simp at this; omega
      obtain ⟨b, off, rfl, hrow⟩ := (HR.out.later HI.out.1.bel).at_ hne
      have hjl : j < rs.length := by rw [HN.out]; exact hlt
      obtain ⟨g0, g1⟩ := hrow j hjl
      obtain ⟨hl, hf⟩ := HR.out.lt _ (List.getElem_mem hjl)
      have HT1 : Hid (fit1 false rs[j] = true → fitA false (rs.take (j + 1)) = true) := fitA_take HI.out.2.2 hjl
      have HT0 : Hid (fit1 false rs[j] = false → fitA false rs = false) := fitA_bad hjl
      have HT9 : Hid (runL false (rs.take (j + 1)) = runL false (rs.take j) ++ nL rs[j].1 false ++ nL rs[j].2 false) := by show _ = _; rw [List.take_add_one, List.getElem?_eq_getElem hjl]; exact runL_snoc _ _ _
      obtain ⟨⟨l, f⟩, hp⟩ : ∃ x, rs[j] = x := ⟨_, rfl⟩
      rw [hp] at g0 g1 hl hf HT1 HT0 HT9
      simp only at g0 g1 hl hf
      clear hrow hp hne hjl
      have HE1 : Hid (Rn w (wr.alloc (.cells #[.int .u64 (l : Int), .int .u64 (f : Int)] 135)) a5 c5 m5 ((bigTo cx 4 4) ++ runL false (rs.take j))) := HI.out.1.later (below1 wr _)
      have HB1 : Hid ((wr.alloc (.cells #[.int .u64 (l : Int), .int .u64 (f : Int)] 135)).heap[wr.heap.size]? = some (.cells #[.int .u64 (l : Int), .int .u64 (f : Int)] 135 (0, 0))) := heap_new _ _
      have HB2 : Hid ((wr.alloc (.cells #[.int .u64 (l : Int), .int .u64 (f : Int)] 135)).heap[w.heap.size]? = some (.cells #[.int .u32 (cx : Int), .slice (some ⟨b, off, none⟩) n rc] 40 (0, 0))) := box_later HI.out.2.1 (below1 wr _)
      go_upto_region 12 with fail
      clear g0 g1 q1
      generalize wr.alloc (Obj.cells #[.int .u64 (l : Int), .int .u64 (f : Int)] 135) = Wr at *
      generalize wr.heap.size = rb at *
      have y0 := blk_at HB1.out 0
      have y1 := blk_at HB1.out 1
      simp at y0 y1
      cases hft : fit1 false (l, f) with
      | false =>
        have hff : ¬ (l ≤ 4294967295 ∧ f ≤ 4294967295) := by simp [fit1] at hft; omega
        by_cases hl1 : l ≤ 4294967295
        · have d1 : decide ((4294967295 : Int) < (l : Int)) = false := by simp; omega
          have d2 : decide ((4294967295 : Int) < (f : Int)) = true := by simp; omega
          clear hft hff HT1 HT0 HT9
          go_wp2
          go_ret2
          exact pk_none HE1.out.bel
        · have d1 : decide ((4294967295 : Int) < (l : Int)) = true := by simp; omega
          clear hft hff HT1 HT0 HT9
          go_wp2
          go_ret2
          exact pk_none HE1.out.bel
      | true =>
        have hff : l ≤ 4294967295 ∧ f ≤ 4294967295 := by simp [fit1] at hft; omega
        have d1 : decide ((4294967295 : Int) < (l : Int)) = false := by simp; omega
        have d2 : decide ((4294967295 : Int) < (f : Int)) = false := by simp; omega
        have hml : l % 4294967296 = l := Nat.mod_eq_of_lt (by omega)
        have hmf : f % 4294967296 = f := Nat.mod_eq_of_lt (by omega)
        have HNL : Hid (layF [(l, 4), (f, 4)] ++ [] = nL l false ++ nL f false) := by show _ = _; simp [layF, nL, hml, hmf]
        clear hml hmf hff
        have HFT : Hid (fitA false (rs.take (j + 1)) = true) := HT1.out hft
        clear hft HT1 HT0
        go_wp2_with fail
        clear y0 y1
        refine (layR (w := w) [(l, 4), (f, 4)] 2 _ rfl HE1.out.bel rfl (by simp; omega) (by decide) (Below.refl _ _) none 0 0 [] (brow_nil' _) rfl (by omega) (nL l false ++ nL f false) HNL.out).mono ?_
        rintro e Wz ⟨az, cz, mz, rfl, hmz, hrz, hbz⟩
        have hmz2 : mz ≤ 16 := by rw [← hmz]; have h1 := nL_le l false; have h2 := nL_le f false; simp; omega
        have HMr : Hid (BRow Wz az cz (nL l false ++ nL f false)) := hrz.brow (by omega)
        have HMl : Hid ((nL l false ++ nL f false).length = mz) := hmz
        have HRb : Hid (Rn w Wz a5 c5 m5 ((bigTo cx 4 4) ++ runL false (rs.take j))) := HE1.out.later hbz
        have HBz : Hid (Wz.heap[w.heap.size]? = some (.cells #[.int .u32 (cx : Int), .slice (some ⟨b, off, none⟩) n rc] 40 (0, 0))) := box_later HB2.out hbz
        obtain ⟨LL, hLL⟩ : ∃ LL, (bigTo cx 4 4) ++ runL false (rs.take j) = LL := ⟨_, rfl⟩
        rw [hLL] at HRb
        obtain ⟨MM, hMM⟩ : ∃ MM, nL l false ++ nL f false = MM := ⟨_, rfl⟩
        rw [hMM] at HMr HMl
        have HLL : Hid ((bigTo cx 4 4) ++ runL false (rs.take j) = LL) := hLL
        have HMM : Hid (nL l false ++ nL f false = MM) := hMM
        clear hmz hrz hbz HE1 HB1 HB2 hLL hMM HNL
        go_wp2_with (at_builtin; refine wpList_append_two _ rfl (.tmp 50) (.tmp 60) 25 rfl w.heap.size 5 i0 (.int .u8 0) 1 Tryd.underlying25 hi hz0 hz1 hz2 rfl (.slice a5 m5 c5) m5 ((LL).map bv) rfl HRb.out.own az mz cz ((MM).map bv) rfl (fun e => by have h := HMr.out.nil e; have h2 := HMl.out; rw [h.1] at h2; exact ⟨by simpa using h2.symm, h.2⟩) (by rw [List.length_map]; exact HMl.out) HMr.out.news (bv_one _) (by unfold maxLen; omega) (by omega) HRb.out.bel.size ?_)
        intro v' Wx ho hg hf
        obtain ⟨aWx, cWx, rfl⟩ := owns_form ho
        have HWx : Hid (Rn w Wx aWx cWx (m5 + mz) ((LL) ++ (MM))) := HRb.out.appended ho hg HMr.out.lt HMl.out
        have HYx : Hid (Wx.heap[w.heap.size]? = some (.cells #[.int .u32 (cx : Int), .slice (some ⟨b, off, none⟩) n rc] 40 (0, 0))) := HRb.out.box hg HBz.out (by decide)
        have HN6 : Hid (Rn w Wx aWx cWx (m5 + mz) ((bigTo cx 4 4) ++ runL false (rs.take (j + 1)))) := by
          have h := HWx.out
          rw [← HLL.out, ← HMM.out, List.append_assoc, ← List.append_assoc (runL false (rs.take j)), ← HT9.out] at h
          exact h
        clear ho hg hf HWx HRb HMr HMl
        go_wp2
        go_roundw
        case rel => exact ⟨j + 1, aWx, cWx, m5 + mz, by omega, by go_num, rfl, by omega, HN6.out, HYx.out, HFT.out⟩
        case measure => simp [intOf]; omega
    · exfalso
      have e1 : rs.take j = rs := List.take_of_length_le (by rw [HN.out]; omega)
      have h2 := HI.out.2.2
      rw [e1, HF.out] at h2
      cases h2
set_option maxHeartbeats 2000000 in
theorem rStatus_none (cx : Nat) (ra : Option Addr) (rc : Nat) (wide : Bool) (w : World) :
    Calls Tryd.prog 43 #[.agg #[.int .u32 (cx : Int), .slice ra 0 rc], .bool wide] w fun e w' => Pk w [] 81 e w' := by
  have hx := mkb1 w #[.int .u32 (cx : Int), .slice ra 0 rc] 40
  go_enter Tryd.func43, Tryd.ntmps43
  go_wp2
  go_ret2
  exact pk_none hx.bel
end Go.Proofs.YtjikibhhhchgeaaDoor

namespace Go.Proofs.YtjikibhhhchgeaaDoor
open Go.RowKit
set_option linter.unusedVariables false
set_option linter.unusedSimpArgs false
set_option maxRecDepth 100000
set_option maxHeartbeats 2000000 in
theorem rServer_bad (s : ByteArray) (n : Nat) (da : Option Addr) (dc : Nat) (w : World) (hs : s.size ≤ 9223372036854775807) (ht : tx s = false) :
    Calls Tryd.prog 42 #[.agg #[.string s, .slice da n dc]] w fun e w' => Pk w [] 81 e w' := by
  have HI : Hid (∀ W, Calls Tryd.prog 96 #[.string s] W fun e w' => e = .returned (.bool false) ∧ Below W.heap.size W w') := fun W => by have h := rText_any s W (by first | omega | exact hs | (have := (tx_true ht).1; omega)); rw [ht] at h; exact h
  clear ht
  have hx := mkb1 w #[.string s, .slice da n dc] 37
  go_enter Tryd.func42, Tryd.ntmps42
  go_wp2_with fail
  generalize w.alloc (Obj.cells #[.string s, .slice da n dc] 37) = W0 at *
  refine (HI.out _).mono ?_
  rintro e W1 ⟨rfl, hb⟩
  have HY : Hid (Bx1 w W1 #[.string s, .slice da n dc] 37) := hx.later hb
  clear hx hb HI
  go_wp2
  go_ret2
  exact pk_none HY.out.bel
end Go.Proofs.YtjikibhhhchgeaaDoor

namespace Go.Proofs.YtjikibhhhchgeaaDoor
open Go.RowKit
set_option linter.unusedVariables false
set_option linter.unusedSimpArgs false
set_option maxRecDepth 100000
theorem dMetaC (c : Nat) (s : ByteArray) (w : World) (h1 : c < 4294967296) (hs : s.size ≤ 9223372036854775807) :
    Calls Tryd.prog 41 #[.agg #[.int .u32 (c : Int), .string s]] w fun e w' => PkC w (rMetaC c s) e w' := by
  unfold rMetaC
  cases ht : tx s with
  | true => exact rMeta_ok c s w h1 ht
  | false => exact rMeta_bad c s w hs ht
theorem dDataC (off n : Nat) (da : Option Addr) (dc : Nat) (m : List Nat) (w : World) (h1 : off < 18446744073709551616) (hr : BRow w da dc m) (hm0 : m.length = n) (hn2 : n ≤ 1048576) :
    Calls Tryd.prog 45 #[.agg #[.int .u64 (off : Int), .slice da n dc]] w fun e w' => PkC w (rDataC off m) e w' := by
  by_cases hm : m = []
  · subst hm; simp at hm0; subst hm0
    exact rData_bad off da dc w
  · have hp : 0 < n := by rw [← hm0]; exact List.length_pos_iff.2 hm
    unfold rDataC; rw [if_neg hm]
    exact rData_ok off n da dc m w h1 hr hm0 hp (by omega)
theorem dErrorC (c : Nat) (s : ByteArray) (pl : Bool) (a : Nat) (w : World) (h1 : c < 4294967296) (h2 : a < 18446744073709551616) (hs : s.size ≤ 9223372036854775807) :
    Calls Tryd.prog 44 #[.agg #[.int .u32 (c : Int), .string s, .bool pl, .int .u64 (a : Int)]] w fun e w' => PkC w (rErrorC c s pl a) e w' := by
  unfold rErrorC
  cases ht : tx s with
  | false => exact rError_bad c s pl a w hs ht
  | true =>
    cases pl with
    | true => exact rError_ok1 c s a w h1 h2 ht
    | false =>
      by_cases ha : a = 0
      · simp only [if_true, Bool.false_eq_true, if_false, if_pos ha]
        exact rError_ok0 c s a w h1 ha ht
      · simp only [if_true, Bool.false_eq_true, if_false, if_neg ha]
        exact rError_at c s a w hs ht ha
theorem dAskC (s : ByteArray) (ia : Option Addr) (k ic : Nat) (ks : List Nat) (w : World) (hu : U16s w ia ks) (hks : ks.length = k) (hs : s.size ≤ 9223372036854775807) :
    Calls Tryd.prog 39 #[.agg #[.string s, .slice ia k ic]] w fun e w' => PkC w (rAskC s ks) e w' := by
  unfold rAskC
  rw [hks]
  cases ht : tx s with
  | false => exact rInfoReq_bad s ia k ic w hs ht
  | true =>
    by_cases hk : k ≤ 64
    · simp only [if_true, if_pos hk]
      exact rInfoReq_ok s ia k ic ks w hu hks hk ht
    · simp only [if_true, if_neg hk]
      exact rInfoReq_many s ia k ic w hs ht (by omega)
theorem dMetasC (s : ByteArray) (qa : Option Addr) (k qc : Nat) (qs : List ByteArray) (w : World) (hq : Strs w qa qs) (hks : qs.length = k) (hk : k ≤ 1048576) (hs : s.size ≤ 9223372036854775807) :
    Calls Tryd.prog 40 #[.agg #[.string s, .slice qa k qc]] w fun e w' => PkC w (rMetasC s qs) e w' := by
  unfold rMetasC
  rw [hks]
  cases ht : tx s with
  | false => exact rMetaReq_bad s qa k qc w hs ht
  | true =>
    cases htx : txs qs with
    | false => exact rMetaReq_no s qa k qc qs w hq hks hk htx ht
    | true =>
      by_cases hk2 : k ≤ 16
      · simp only [if_true, if_pos hk2]
        exact rMetaReq_ok s qa k qc qs w hq hks hk2 htx ht
      · simp only [if_true, if_neg hk2]
        exact rMetaReq_many s qa k qc qs w hq hks hk (by omega) htx ht
theorem dStatusC (cx : Nat) (ra : Option Addr) (n rc : Nat) (wide : Bool) (rs : List (Nat × Nat)) (w : World) (hc : cx < 4294967296) (h : Runs w ra rs) (hn : rs.length = n) (hn2 : n ≤ 1048576) :
    Calls Tryd.prog 43 #[.agg #[.int .u32 (cx : Int), .slice ra n rc], .bool wide] w fun e w' => PkC w (rStatusC wide cx rs) e w' := by
  unfold rStatusC
  rw [hn]
  rcases Nat.eq_zero_or_pos n with h0 | h0
  · subst h0
    simp only [Nat.lt_irrefl, decide_false, Bool.and_false, Bool.false_eq_true, if_false]
    exact rStatus_none cx ra rc wide w
  · have hd : decide (0 < n) = true := by simp; omega
    rw [hd, Bool.and_true]
    cases wide with
    | true =>
      have hf : fitA true rs = true := by rw [fitA, List.all_eq_true]; intro x _; rfl
      rw [if_pos hf]
      exact rStatus_ok1 cx ra n rc rs w hc h hn hn2 h0 hf
    | false =>
      cases hf : fitA false rs with
      | true => exact rStatus_ok0 cx ra n rc rs w hc h hn hn2 h0 hf
      | false => exact rStatus_no0 cx ra n rc rs w hc h hn hn2 h0 hf
theorem dServerC (s : ByteArray) (n : Nat) (da : Option Addr) (dc : Nat) (m : List Nat) (w : World) (hr : BRow w da dc m) (hm0 : m.length = n) (hn2 : n ≤ 1048576) (hs : s.size ≤ 9223372036854775807) :
    Calls Tryd.prog 42 #[.agg #[.string s, .slice da n dc]] w fun e w' => PkC w (rServerC s m) e w' := by
  unfold rServerC
  cases ht : tx s with
  | false => exact rServer_bad s n da dc w hs ht
  | true =>
    cases da with
    | none =>
      obtain ⟨rfl, rfl⟩ := hr.nil rfl
      simp at hm0; subst hm0
      exact rServer_none s w ht
    | some ad => exact rServer_some s n ad dc m w hr hm0 hn2 ht
theorem dInfoC (k sz fl : Nat) (s : ByteArray) (mn pf mx : Nat) (da : Option Addr) (n dc : Nat) (d : List Nat) (w : World) (hk : k < 65536) (hsz : sz < 18446744073709551616) (hfl : fl < 65536) (hs : s.size ≤ 9223372036854775807) (hmn : mn < 4294967296) (hpf : pf < 4294967296) (hmx : mx < 4294967296) (hr : BRow w da dc d) (hd : d.length = n) (hn : n ≤ 1048576) :
    Calls Tryd.prog 38 #[.agg #[.int .u16 (k : Int), .int .u64 (sz : Int), .int .u16 (fl : Int), .string s, .int .u32 (mn : Int), .int .u32 (pf : Int), .int .u32 (mx : Int), .slice da n dc]] w fun e w' => PkC w (rInfoC k sz fl s mn pf mx d) e w' := by
  unfold rInfoC
  rw [hd]
  cases hf : ifB k sz fl s mn pf mx n with
  | true =>
    by_cases h0 : k = 0
    · exact rInfo_0 k sz fl s mn pf mx da n dc d w hk hsz hfl hs hmn hpf hmx hr hd hn hf h0
    by_cases h1 : k = 1
    · exact rInfo_1 k sz fl s mn pf mx da n dc d w hk hsz hfl hs hmn hpf hmx hr hd hn hf h1
    by_cases h2 : k = 2
    · exact rInfo_2 k sz fl s mn pf mx da n dc d w hk hsz hfl hs hmn hpf hmx hr hd hn hf h2
    by_cases h3 : k = 3
    · exact rInfo_3 k sz fl s mn pf mx da n dc d w hk hsz hfl hs hmn hpf hmx hr hd hn hf h3
    exact rInfo_o k sz fl s mn pf mx da n dc d w hk hsz hfl hs hmn hpf hmx hr hd hn hf ⟨h0, h1, h2, h3⟩
  | false =>
    simp only [Bool.false_eq_true, if_false]
    by_cases h0 : k = 0
    · show Calls _ _ _ _ _
      cases hc : (true && (true && ((emB s) && ((decide (mn = 0)) && ((decide (pf = 0)) && ((decide (mx = 0)) && decide (d = []))))))) with
      | false => exact rInfo_s k sz fl s mn pf mx da n dc #[.int .u16 (k : Int), .int .u64 (sz : Int), .int .u16 (fl : Int), .string ⟨#[]⟩, .int .u32 0, .int .u32 0, .int .u32 0, .slice none 0 0] w (fun W hb => bare_0 k sz fl s mn pf mx da n dc W h0) (fun W hb => (sameInfo_any k sz fl s mn pf mx da n dc d sz fl ⟨#[]⟩ 0 0 0 none 0 0 [] true true (emB s) (decide (mn = 0)) (decide (pf = 0)) (decide (mx = 0)) W (hr.later hb) hd (brow_nil' W) rfl (by simp) (by simp) (em_eq2 s) (z_eq mn) (z_eq pf) (z_eq mx)).mono (fun e w' hh => ⟨by rw [hh.1, hc], hh.2⟩))
      | true =>
        exfalso
        have hnd := nil_dec d n hd
        have het : emB s = true → tx s = true := em_tx
        simp only [ifB, h0, exB, blB, hnd] at hf hc
        simp_all
    by_cases h1 : k = 1
    · show Calls _ _ _ _ _
      cases hc : ((decide (sz = 0)) && ((decide (fl = 0)) && (true && ((decide (mn = 0)) && ((decide (pf = 0)) && ((decide (mx = 0)) && decide (d = []))))))) with
      | false => exact rInfo_s k sz fl s mn pf mx da n dc #[.int .u16 (k : Int), .int .u64 0, .int .u16 0, .string s, .int .u32 0, .int .u32 0, .int .u32 0, .slice none 0 0] w (fun W hb => bare_1 k sz fl s mn pf mx da n dc W h1) (fun W hb => (sameInfo_any k sz fl s mn pf mx da n dc d 0 0 s 0 0 0 none 0 0 [] (decide (sz = 0)) (decide (fl = 0)) true (decide (mn = 0)) (decide (pf = 0)) (decide (mx = 0)) W (hr.later hb) hd (brow_nil' W) rfl (z_eq sz) (z_eq fl) (by simp) (z_eq mn) (z_eq pf) (z_eq mx)).mono (fun e w' hh => ⟨by rw [hh.1, hc], hh.2⟩))
      | true =>
        exact rInfo_1n k sz fl s mn pf mx da n dc d w hk hsz hfl hs hmn hpf hmx hr hd hn hf hc h1
    by_cases h2 : k = 2
    · show Calls _ _ _ _ _
      cases hc : ((decide (sz = 0)) && ((decide (fl = 0)) && (true && ((decide (mn = 0)) && ((decide (pf = 0)) && ((decide (mx = 0)) && decide (d = []))))))) with
      | false => exact rInfo_s k sz fl s mn pf mx da n dc #[.int .u16 (k : Int), .int .u64 0, .int .u16 0, .string s, .int .u32 0, .int .u32 0, .int .u32 0, .slice none 0 0] w (fun W hb => bare_2 k sz fl s mn pf mx da n dc W h2) (fun W hb => (sameInfo_any k sz fl s mn pf mx da n dc d 0 0 s 0 0 0 none 0 0 [] (decide (sz = 0)) (decide (fl = 0)) true (decide (mn = 0)) (decide (pf = 0)) (decide (mx = 0)) W (hr.later hb) hd (brow_nil' W) rfl (z_eq sz) (z_eq fl) (by simp) (z_eq mn) (z_eq pf) (z_eq mx)).mono (fun e w' hh => ⟨by rw [hh.1, hc], hh.2⟩))
      | true =>
        exact rInfo_2n k sz fl s mn pf mx da n dc d w hk hsz hfl hs hmn hpf hmx hr hd hn hf hc h2
    by_cases h3 : k = 3
    · show Calls _ _ _ _ _
      cases hc : ((decide (sz = 0)) && ((decide (fl = 0)) && ((emB s) && (true && (true && (true && decide (d = []))))))) with
      | false => exact rInfo_s k sz fl s mn pf mx da n dc #[.int .u16 (k : Int), .int .u64 0, .int .u16 0, .string ⟨#[]⟩, .int .u32 (mn : Int), .int .u32 (pf : Int), .int .u32 (mx : Int), .slice none 0 0] w (fun W hb => bare_3 k sz fl s mn pf mx da n dc W h3) (fun W hb => (sameInfo_any k sz fl s mn pf mx da n dc d 0 0 ⟨#[]⟩ mn pf mx none 0 0 [] (decide (sz = 0)) (decide (fl = 0)) (emB s) true true true W (hr.later hb) hd (brow_nil' W) rfl (z_eq sz) (z_eq fl) (em_eq2 s) (by simp) (by simp) (by simp)).mono (fun e w' hh => ⟨by rw [hh.1, hc], hh.2⟩))
      | true =>
        exfalso
        have hnd := nil_dec d n hd
        have het : emB s = true → tx s = true := em_tx
        simp only [ifB, h3, exB, blB, hnd] at hf hc
        simp_all
    · show Calls _ _ _ _ _
      cases hc : ((decide (sz = 0)) && ((decide (fl = 0)) && ((emB s) && ((decide (mn = 0)) && ((decide (pf = 0)) && ((decide (mx = 0)) && decide (d = d))))))) with
      | false => exact rInfo_s k sz fl s mn pf mx da n dc #[.int .u16 (k : Int), .int .u64 0, .int .u16 0, .string ⟨#[]⟩, .int .u32 0, .int .u32 0, .int .u32 0, .slice da n dc] w (fun W hb => bare_o k sz fl s mn pf mx da n dc W ⟨h0, h1, h2, h3⟩) (fun W hb => (sameInfo_any k sz fl s mn pf mx da n dc d 0 0 ⟨#[]⟩ 0 0 0 da n dc d (decide (sz = 0)) (decide (fl = 0)) (emB s) (decide (mn = 0)) (decide (pf = 0)) (decide (mx = 0)) W (hr.later hb) hd (hr.later hb) hd (z_eq sz) (z_eq fl) (em_eq2 s) (z_eq mn) (z_eq pf) (z_eq mx)).mono (fun e w' hh => ⟨by rw [hh.1, hc], hh.2⟩))
      | true =>
        exfalso
        have hnd := nil_dec d n hd
        have het : emB s = true → tx s = true := em_tx
        simp only [ifB, h0, h1, h2, h3, exB, blB] at hf hc
        simp_all
end Go.Proofs.YtjikibhhhchgeaaDoor
