import Derived.Test.YtckfmpoddmccfaaV20
import Derived.Test.YtckfmpoddmccfaaV25
import Derived.Test.YtckfmpoddmccfaaV26
namespace Go.Proofs.Ytckfmpoddmccfaa
open Go.RowKit
set_option linter.unusedVariables false
set_option linter.unusedSimpArgs false
set_option maxRecDepth 100000

theorem greD_n (l : List Nat) (h : (greD l).2.2 = 0) : (greD l).2.1 ≤ l.length := by
  unfold greD at h ⊢
  by_cases h0 : l.length < 18
  · rw [if_pos h0] at h; simp at h
  rw [if_neg h0] at h ⊢
  by_cases h1 : vl l 0 8 ≠ mInit
  · rw [if_pos h1] at h; simp at h
  rw [if_neg h1] at h ⊢
  by_cases h2 : vl l 8 8 ≠ mHave
  · rw [if_pos h2] at h; simp at h
  rw [if_neg h2] at h ⊢
  simp only
  omega
theorem expD_n (z : Bool) (l : List Nat) (h : (expD z l).2.2 = 0) : (expD z l).2.1 ≤ l.length := by
  unfold expD at h ⊢
  by_cases h0 : l.length < xz z
  · rw [if_pos h0] at h; simp at h
  rw [if_neg h0] at h ⊢
  by_cases h1 : xzs z l = false
  · rw [if_pos h1] at h; simp at h
  rw [if_neg h1] at h ⊢
  simp only
  omega
theorem simD_n (l : List Nat) (h : (simD l).2.2 = 0) : (simD l).2.1 ≤ l.length := by
  unfold simD at h ⊢
  by_cases h0 : l.length < 16
  · rw [if_pos h0] at h; simp at h
  rw [if_neg h0] at h ⊢
  by_cases h1 : vl l 0 4 ≠ mSimple
  · rw [if_pos h1] at h; simp at h
  rw [if_neg h1] at h ⊢
  simp only
  omega
theorem repD_n (most : Nat) (l : List Nat) (h : (repD most l).2.2 = 0) : (repD most l).2.1 ≤ l.length := by
  unfold repD at h ⊢
  by_cases h0 : l.length < 20
  · rw [if_pos h0] at h; simp at h
  rw [if_neg h0] at h ⊢
  by_cases h1 : vl l 0 8 ≠ mReply
  · rw [if_pos h1] at h; simp at h
  rw [if_neg h1] at h ⊢
  by_cases h2 : most < vl l 16 4
  · rw [if_pos h2] at h; simp at h
  rw [if_neg h2] at h ⊢
  by_cases h3 : l.length < 20 + vl l 16 4
  · rw [if_pos h3] at h; simp at h
  rw [if_neg h3] at h ⊢
  simp only
  omega
theorem reqD_n (most : Nat) (ext : Bool) (l : List Nat) (h : (reqD most ext l).2.2 = 0) : (reqD most ext l).2.1 ≤ l.length := by
  unfold reqD at h ⊢
  by_cases h0 : l.length < qz ext
  · rw [if_pos h0] at h; simp at h
  rw [if_neg h0] at h ⊢
  by_cases h1 : vl l 0 4 ≠ qm ext
  · rw [if_pos h1] at h; simp at h
  rw [if_neg h1] at h ⊢
  by_cases h2 : payB (vl l 4 2) (vl l 6 2) ext = false
  · rw [if_pos h2]; simp only; omega
  rw [if_neg h2] at h ⊢
  by_cases h3 : most < vl l 24 (qk ext)
  · rw [if_pos h3] at h; simp at h
  rw [if_neg h3] at h ⊢
  by_cases h4 : l.length < qz ext + vl l 24 (qk ext)
  · rw [if_pos h4] at h; simp at h
  rw [if_neg h4] at h ⊢
  simp only
  omega
theorem chkD_n (most : Nat) (ext : Bool) (l : List Nat) (h : (chkD most ext l).2.2 = 0) : (chkD most ext l).2.1 ≤ l.length := by
  unfold chkD at h ⊢
  by_cases h0 : l.length < cz ext
  · rw [if_pos h0] at h; simp at h
  rw [if_neg h0] at h ⊢
  by_cases h1 : vl l 0 4 ≠ cm ext
  · rw [if_pos h1] at h; simp at h
  rw [if_neg h1] at h ⊢
  by_cases h2 : most < cln ext l
  · rw [if_pos h2] at h; simp at h
  rw [if_neg h2] at h ⊢
  by_cases h3 : l.length < cz ext + cln ext l
  · rw [if_pos h3] at h; simp at h
  rw [if_neg h3] at h ⊢
  simp only
  omega
end Go.Proofs.Ytckfmpoddmccfaa

namespace Go.Proofs.Ytckfmpoddmccfaa
open Go.RowKit
set_option linter.unusedVariables false
set_option linter.unusedSimpArgs false
set_option maxRecDepth 100000

set_option maxHeartbeats 4000000 in
theorem option1 (ao : Option Addr) (cap : Nat) (l : List Nat) (most pm : Nat) (w : World) (h : CRow w ao cap l) (hm : most < 4294967296) (hp : w.cell? ⟨pm, 0, none⟩ = some (.int .u32 (most : Int))) :
    Calls Try.prog 61 #[.slice ao l.length cap, .pointer (some ⟨pm, 0, none⟩)] w fun e w' => OptP (optF most l) w e w' := by
  have h5 : 57 ≠ 5 := by decide
  obtain ⟨W0, hW0⟩ : ∃ W0, W0 = w.alloc (.cells #[.int .u32 0, .int .u32 0, .bool false, Value.slice none 0 0] 57) := ⟨_, rfl⟩
  have hB0 := (Bx.start w).alloc #[.int .u32 0, .int .u32 0, .bool false, Value.slice none 0 0] 57 h5
  rw [← hW0] at hB0
  have H0 : Hid _ := hB0
  have hp0 : W0.cell? ⟨pm, 0, none⟩ = some (.int .u32 (most : Int)) := cell_later hB0.bel hp
  have hp1 := hp0
  rw [hW0] at hp1
  have HD : Hid (Calls Try.prog 62 #[.slice ao l.length cap, .int .u32 (most : Int)] W0 fun e w' => OptP (optF most l) W0 e w') := decodeOptionF ao cap l most W0 (h.later hB0.bel) hm
  obtain ⟨ln, hln⟩ : ∃ ln, l.length = ln := ⟨_, rfl⟩
  rw [hln] at HD
  rw [hln]
  clear hB0 h
  go_enter Try.func61, Try.ntmps61
  go_wp2_with fail
  rw [← hW0]
  clear hW0 hp1
  refine HD.out.mono ?_
  rintro e W1 ⟨c, k, lg, d, n, er, ao2, cap2, rfl, hD, hr⟩
  have HDe : Hid (optF most l = ((c, k, lg, d), n, er)) := hD
  have HR : Hid (∀ x ∈ d, x < 256) := hr.lt
  have H2 : Hid _ := H0.out.told hr
  clear H0 HD hD hr hp0 hp
  obtain ⟨r0, f0⟩ := H2.out.c (.head _) 0; obtain ⟨r1, f1⟩ := H2.out.c (.head _) 1; obtain ⟨r2, f2⟩ := H2.out.c (.head _) 2; obtain ⟨r3, f3⟩ := H2.out.c (.head _) 3
  simp at r0 r1 r2 r3
  have H3 : Hid _ := Bx.put (pre := []) (Bx.put (pre := []) (Bx.put (pre := []) (Bx.put (pre := []) H2.out 0 (.int .u32 (c : Int)) (cs' := #[.int .u32 (c : Int), .int .u32 0, .bool false, Value.slice none 0 0]) rfl) 1 (.int .u32 (k : Int)) (cs' := #[.int .u32 (c : Int), .int .u32 (k : Int), .bool false, Value.slice none 0 0]) rfl) 2 (.bool lg) (cs' := #[.int .u32 (c : Int), .int .u32 (k : Int), .bool lg, Value.slice none 0 0]) rfl) 3 (.slice ao2 d.length cap2) (cs' := #[.int .u32 (c : Int), .int .u32 (k : Int), .bool lg, .slice ao2 d.length cap2]) rfl
  clear H2
  go_wp2
  exact bodyPost_ret (results_cell_tmp2 rfl _ _ w.heap.size 57 #[.int .u32 (c : Int), .int .u32 (k : Int), .bool lg, .slice ao2 d.length cap2] (0, 0) _ rfl (H3.out.box _ (.head _)).1 Try.underlying57 rfl infoOpt) rfl ⟨c, k, lg, d, n, er, ao2, cap2, rfl, HDe.out, H3.out.row, HR.out, H3.out.bel⟩
theorem optD_k (most : Nat) (l : List Nat) (h : ∀ x ∈ l, x < 256) : (optD most l).1.2.1 < 4294967296 := by
  have hb : vl l 12 4 < 4294967296 := by have := valB_bound l 12 4 h; simpa [vl] using this
  unfold optD
  by_cases h1 : l.length < 16
  · rw [if_pos h1]; simp
  rw [if_neg h1]
  by_cases h2 : vl l 0 8 ≠ mHave
  · rw [if_pos h2]; simp
  rw [if_neg h2]
  by_cases h3 : most < vl l 12 4
  · rw [if_pos h3]; exact hb
  rw [if_neg h3]
  by_cases h4 : l.length < 16 + vl l 12 4
  · rw [if_pos h4]; simp
  rw [if_neg h4]; exact hb
theorem cut_k {most ov : Nat} {l : List Nat} (h : ∀ x ∈ l, x < 256) {c k : Nat} {lg : Bool} {d : List Nat} {cu : Nat} {l' : List Nat} (hc : cutOf (0, 0, false, []) ov l (optF most l) = ((c, k, lg, d), cu, l')) : k < 4294967296 := by
  have e : k = (cutOf (0, 0, false, []) ov l (optF most l)).1.2.1 := by rw [hc]
  rw [e]
  have hb := optD_k most l h
  unfold cutOf
  by_cases h0 : 0 < ov
  · rw [if_pos h0]; simp
  rw [if_neg h0]
  by_cases h1 : (optF most l).2.2 = 0
  · rw [if_pos h1]; exact hb
  rw [if_neg h1]
  by_cases h2 : (optF most l).2.2 = 10
  · rw [if_pos h2]; simp
  rw [if_neg h2]
  by_cases h3 : (optF most l).2.2 = 12
  · rw [if_pos h3]; simp
  rw [if_neg h3]; simp
/-- a cut of an option: the message, the answer, how many are to be passed over, what is held -/
def optC (most ov : Nat) (l : List Nat) : (Nat × Nat × Bool × List Nat) × Nat × Nat × List Nat :=
  let r := cutOf (0, 0, false, []) ov l (optF most l)
  if r.1.2.2.1 = true then (r.1, r.2.1, r.1.2.1 - min r.2.2.length r.1.2.1, r.2.2.drop (min r.2.2.length r.1.2.1)) else (r.1, r.2.1, ov, r.2.2)
def OptI (w : World) (B b : Nat) (v : Value) (rm : Nat) (x : (Nat × Nat × Bool × List Nat) × Nat × Nat × List Nat) (e : Ending) (w' : World) : Prop :=
  ∃ (c k : Nat) (lg : Bool) (d : List Nat) (cu ov' : Nat) (l' : List Nat) (v' : Value) (ao2 : Option Addr) (cap2 : Nat), e = .returned (.tuple #[.agg #[.int .u32 (c : Int), .int .u32 (k : Int), .bool lg, .slice ao2 d.length cap2], .int .i64 (cu : Int)]) ∧ x = ((c, k, lg, d), cu, ov', l') ∧ Inb w' B b v' rm ov' l' ∧ IAct w w' b v v' ∧ w'.ownsRow w.heap.size 5 1 (.slice ao2 d.length cap2) d.length (d.map bv) ∧ ∀ g, (Value.slice ao2 d.length cap2).ownBlock = some g → v'.ownBlock ≠ some g
theorem Cf.told2 {w W W' : World} {B b : Nat} {v v' v'' : Value} {rm ov ov' : Nat} {l l' : List Nat} {bs : List (Nat × Array Value × TypeId)} {dv dv' : Value} {d d' : List Nat} (h : Cf w W B b v v' rm ov l bs dv d) (hi : Inb W' B b v'' rm ov' l') (ha : IAct W W' b v' v'') (hr : W'.ownsRow W.heap.size 5 1 dv' d'.length (d'.map bv)) (hn : ∀ g, dv'.ownBlock = some g → v''.ownBlock ≠ some g) : Cf w W' B b v v'' rm ov' l' bs dv' d' := by
  have h2 := h.acts hi ha
  exact ⟨h2.inb, h2.act, h2.bw, h2.box, h2.nd, owns_mono hr h.act.kept.size, hn⟩
set_option maxHeartbeats 8000000 in
theorem optionI {w : World} {B b : Nat} {v : Value} {rm ov : Nat} {l : List Nat} (h : Inb w B b v rm ov l) (most : Nat) (hm : most < 4294967296) :
    Calls Try.prog 24 #[.pointer (some ⟨b, 0, none⟩), .int .u32 (most : Int)] w fun e w' => OptI w B b v rm (optC most ov l) e w' := by
  have h5 : 57 ≠ 5 := by decide
  have h6 : 36 ≠ 5 := by decide
  obtain ⟨ao, cap, hv, hcr⟩ := h.row.crow
  obtain ⟨W0, hW0⟩ : ∃ W0, W0 = (w.alloc (.cells #[.int .u32 (most : Int)] 36)).alloc (.cells #[.int .u32 0, .int .u32 0, .bool false, Value.slice none 0 0] 57) := ⟨_, rfl⟩
  have hC0 := ((Cf.start h).alloc #[.int .u32 (most : Int)] 36 h6).alloc #[.int .u32 0, .int .u32 0, .bool false, Value.slice none 0 0] 57 h5
  rw [World.size_alloc, ← hW0] at hC0
  have H0 : Hid _ := hC0
  have hb0 : Below w.heap.size w W0 := by rw [hW0]; exact bx2_bel w _ _
  have hpm : W0.cell? ⟨w.heap.size, 0, none⟩ = some (.int .u32 (most : Int)) := by
    have := (hC0.c (.tail _ (.head _)) 0).1
    simpa using this
  have HCt : Hid _ := cutOption hC0.inb #[.pointer (some ⟨w.heap.size, 0, none⟩)] (optF most l) (optF_n most l) (fun W hW => by
      have hc : CRow W ao cap l := (hcr.later hb0).later hW
      have := option1 ao cap l most w.heap.size W hc hm (cell_later hW hpm)
      rw [hv]
      exact this)
  have HLt : Hid (∀ x ∈ l, x < 256) := hcr.row.lt
  clear hC0 hpm hb0 hcr hv
  go_enter Try.func24, Try.ntmps24
  go_wp2_with fail
  rw [← hW0]
  clear hW0
  refine Calls.mono HCt.out ?_
  rintro e W1 ⟨c, k, lg, d, cu, l', v', ao2, cap2, rfl, hcut, hI, hA, hr, hn⟩
  have HCu : Hid _ := hcut
  have H1 : Hid _ := (H0.out.told2 hI hA hr hn).alloc #[.int .u32 (c : Int), .int .u32 (k : Int), .bool lg, .slice ao2 d.length cap2] 57 h5
  clear HCt hcut hI hA hr hn H0
  have hkb : k < 4294967296 := cut_k HLt.out HCu.out
  cases lg with
  | false =>
    have HF : Hid _ := Cf.put (pre := [_]) (Cf.put (pre := [_]) (Cf.put (pre := [_]) (Cf.put (pre := [_]) H1.out 0 (.int .u32 (c : Int)) (cs' := #[.int .u32 (c : Int), .int .u32 0, .bool false, Value.slice none 0 0]) rfl) 1 (.int .u32 (k : Int)) (cs' := #[.int .u32 (c : Int), .int .u32 (k : Int), .bool false, Value.slice none 0 0]) rfl) 2 (.bool false) (cs' := #[.int .u32 (c : Int), .int .u32 (k : Int), .bool false, Value.slice none 0 0]) rfl) 3 (.slice ao2 d.length cap2) (cs' := #[.int .u32 (c : Int), .int .u32 (k : Int), .bool false, .slice ao2 d.length cap2]) rfl
    obtain ⟨a0, _⟩ := H1.out.c (.head _) 0
    obtain ⟨r0, f0⟩ := H1.out.c (.tail _ (.head _)) 0
    obtain ⟨a1, _⟩ := H1.out.c (.head _) 1
    obtain ⟨r1, f1⟩ := H1.out.c (.tail _ (.head _)) 1
    obtain ⟨a2, _⟩ := H1.out.c (.head _) 2
    obtain ⟨r2, f2⟩ := H1.out.c (.tail _ (.head _)) 2
    obtain ⟨a3, _⟩ := H1.out.c (.head _) 3
    obtain ⟨r3, f3⟩ := H1.out.c (.tail _ (.head _)) 3
    simp at a0 r0 a1 r1 a2 r2 a3 r3
    clear H1
    go_wp2
    exact bodyPost_ret (results_cell_tmp1 rfl _ _ (w.heap.size + 1) 57 #[.int .u32 (c : Int), .int .u32 (k : Int), .bool false, .slice ao2 d.length cap2] (0, 0) _ rfl (HF.out.box _ (.tail _ (.head _))).1 Try.underlying57 rfl infoOpt) rfl ⟨c, k, false, d, cu, ov, l', v', ao2, cap2, rfl, by unfold optC; rw [HCu.out]; rfl, HF.out.inb, HF.out.act, HF.out.row, HF.out.rn⟩
  | true =>
    obtain ⟨p, hp⟩ : ∃ p, min l'.length k = p := ⟨_, rfl⟩
    have c1 := H1.out.inb.c 1
    have c2 := H1.out.inb.c 2
    have f2 := H1.out.inb.f 2
    simp at c1 c2
    obtain ⟨a0, _⟩ := H1.out.c (.head _) 0
    obtain ⟨r0, f0⟩ := H1.out.c (.tail _ (.head _)) 0
    obtain ⟨a1, _⟩ := H1.out.c (.head _) 1
    obtain ⟨r1, f1⟩ := H1.out.c (.tail _ (.head _)) 1
    obtain ⟨a2, _⟩ := H1.out.c (.head _) 2
    obtain ⟨r2, f2⟩ := H1.out.c (.tail _ (.head _)) 2
    obtain ⟨a3, _⟩ := H1.out.c (.head _) 3
    obtain ⟨r3, f3⟩ := H1.out.c (.tail _ (.head _)) 3
    simp at a0 r0 a1 r1 a2 r2 a3 r3
    have hPo := H1.out.inb.putO k hkb
    have H2 : Hid _ := H1.out.acts hPo.1 (IAct.ofKept hPo.2)
    have HPs : Hid _ := passI hPo.1 l'.length p (by have := hPo.1.row.len; omega) hp
    obtain ⟨vo, vc, hv', _⟩ := H1.out.inb.row.crow
    subst hv'
    clear H1 hPo
    go_wp2_with fail
    refine Calls.mono HPs.out ?_
    rintro e W3 ⟨rfl, hI3, hK3⟩
    have H3 : Hid _ := H2.out.acts hI3 (IAct.ofKept hK3)
    have HDr : Hid _ := dropI hI3 p (by omega)
    clear HPs H2 hI3 hK3
    go_wp2_with fail
    refine Calls.mono HDr.out ?_
    rintro e W4 ⟨rfl, v4, hI4, hA4⟩
    have H4 : Hid _ := H3.out.acts hI4 hA4
    clear HDr H3 hI4 hA4
    have HF : Hid _ := Cf.put (pre := [_]) (Cf.put (pre := [_]) (Cf.put (pre := [_]) (Cf.put (pre := [_]) H4.out 0 (.int .u32 (c : Int)) (cs' := #[.int .u32 (c : Int), .int .u32 0, .bool false, Value.slice none 0 0]) rfl) 1 (.int .u32 (k : Int)) (cs' := #[.int .u32 (c : Int), .int .u32 (k : Int), .bool false, Value.slice none 0 0]) rfl) 2 (.bool true) (cs' := #[.int .u32 (c : Int), .int .u32 (k : Int), .bool true, Value.slice none 0 0]) rfl) 3 (.slice ao2 d.length cap2) (cs' := #[.int .u32 (c : Int), .int .u32 (k : Int), .bool true, .slice ao2 d.length cap2]) rfl
    obtain ⟨a0, _⟩ := H4.out.c (.head _) 0
    obtain ⟨r0, f0⟩ := H4.out.c (.tail _ (.head _)) 0
    obtain ⟨a1, _⟩ := H4.out.c (.head _) 1
    obtain ⟨r1, f1⟩ := H4.out.c (.tail _ (.head _)) 1
    obtain ⟨a2, _⟩ := H4.out.c (.head _) 2
    obtain ⟨r2, f2⟩ := H4.out.c (.tail _ (.head _)) 2
    obtain ⟨a3, _⟩ := H4.out.c (.head _) 3
    obtain ⟨r3, f3⟩ := H4.out.c (.tail _ (.head _)) 3
    simp at a0 r0 a1 r1 a2 r2 a3 r3
    clear H4
    go_wp2
    exact bodyPost_ret (results_cell_tmp1 rfl _ _ (w.heap.size + 1) 57 #[.int .u32 (c : Int), .int .u32 (k : Int), .bool true, .slice ao2 d.length cap2] (0, 0) _ rfl (HF.out.box _ (.tail _ (.head _))).1 Try.underlying57 rfl infoOpt) rfl ⟨c, k, true, d, cu, k - p, l'.drop p, v4, ao2, cap2, rfl, by unfold optC; rw [HCu.out, ← hp]; rfl, HF.out.inb, HF.out.act, HF.out.row, HF.out.rn⟩
end Go.Proofs.Ytckfmpoddmccfaa
