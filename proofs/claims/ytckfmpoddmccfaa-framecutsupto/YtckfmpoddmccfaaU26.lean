import Derived.Test.YtckfmpoddmccfaaU25
import Derived.Test.YtckfmpoddmccfaaU18
import Derived.Test.YtckfmpoddmccfaaU13
import Derived.Test.YtckfmpoddmccfaaU16
import Derived.Test.YtckfmpoddmccfaaU19
import Derived.Test.YtckfmpoddmccfaaU15
import Derived.Test.YtckfmpoddmccfaaU20
import Derived.Test.YtckfmpoddmccfaaU21
namespace Go.Proofs.Ytckfmpoddmccfaa
open Go.RowKit
set_option linter.unusedVariables false
set_option linter.unusedSimpArgs false
set_option maxRecDepth 100000
set_option maxHeartbeats 4000000 in
theorem option1 (ao : Option Addr) (cap : Nat) (l : List Nat) (most pm : Nat) (w : World) (h : CRow w ao cap l) (hm : most < 4294967296) (hp : w.cell? ⟨pm, 0, none⟩ = some (.int .u32 (most : Int))) :
    Calls Try.prog 61 #[.slice ao l.length cap, .pointer (some ⟨pm, 0, none⟩)] w fun e w' => OptP (optF most l) w e w' := by
  have h5 : 57 ≠ 5 := by decide
  obtain ⟨W0, hW0⟩ : ∃ W0, W0 = w.alloc (.cells #[.int .u32 0, .int .u32 0, .bool false, Value.slice none 0 0] 57) := ⟨_, rfl⟩
  have hB0 := (Bx.start w).alloc #[.int .u32 0, .int .u32 0, .bool false, Value.slice none 0 0] 57 h5
  rw [← hW0] at hB0
  have H0 : Hid _ := hB0
  have hp0 : W0.cell? ⟨pm, 0, none⟩ = some (.int .u32 (most : Int)) := cell_later hB0.bel hp
  have hp1 := hp0
  rw [hW0] at hp1
  have HD : Hid (Calls Try.prog 62 #[.slice ao l.length cap, .int .u32 (most : Int)] W0 fun e w' => OptP (optF most l) W0 e w') := decodeOptionF ao cap l most W0 (h.later hB0.bel) hm
  obtain ⟨ln, hln⟩ : ∃ ln, l.length = ln := ⟨_, rfl⟩
  rw [hln] at HD
  rw [hln]
  clear hB0 h
  go_enter Try.func61, Try.ntmps61
  go_wp2_with fail
  rw [← hW0]
  clear hW0 hp1
  refine HD.out.mono ?_
  rintro e W1 ⟨c, k, lg, d, n, er, ao2, cap2, rfl, hD, hr⟩
  have HDe : Hid (optF most l = ((c, k, lg, d), n, er)) := hD
  have HR : Hid (∀ x ∈ d, x < 256) := hr.lt
  have H2 : Hid _ := H0.out.told hr
  clear H0 HD hD hr hp0 hp
  obtain ⟨r0, f0⟩ := H2.out.c (.head _) 0; obtain ⟨r1, f1⟩ := H2.out.c (.head _) 1; obtain ⟨r2, f2⟩ := H2.out.c (.head _) 2; obtain ⟨r3, f3⟩ := H2.out.c (.head _) 3
  simp at r0 r1 r2 r3
  have H3 : Hid _ := Bx.put (pre := []) (Bx.put (pre := []) (Bx.put (pre := []) (Bx.put (pre := []) H2.out 0 (.int .u32 (c : Int)) (cs' := #[.int .u32 (c : Int), .int .u32 0, .bool false, Value.slice none 0 0]) rfl) 1 (.int .u32 (k : Int)) (cs' := #[.int .u32 (c : Int), .int .u32 (k : Int), .bool false, Value.slice none 0 0]) rfl) 2 (.bool lg) (cs' := #[.int .u32 (c : Int), .int .u32 (k : Int), .bool lg, Value.slice none 0 0]) rfl) 3 (.slice ao2 d.length cap2) (cs' := #[.int .u32 (c : Int), .int .u32 (k : Int), .bool lg, .slice ao2 d.length cap2]) rfl
  clear H2
  go_wp2
  exact bodyPost_ret (results_cell_tmp2 rfl _ _ w.heap.size 57 #[.int .u32 (c : Int), .int .u32 (k : Int), .bool lg, .slice ao2 d.length cap2] (0, 0) _ rfl (H3.out.box _ (.head _)).1 Try.underlying57 rfl infoOpt) rfl ⟨c, k, lg, d, n, er, ao2, cap2, rfl, HDe.out, H3.out.row, HR.out, H3.out.bel⟩
theorem optD_k (most : Nat) (l : List Nat) (h : ∀ x ∈ l, x < 256) : (optD most l).1.2.1 < 4294967296 := by
  have hb : vl l 12 4 < 4294967296 := by have := valB_bound l 12 4 h; simpa [vl] using this
  unfold optD
  by_cases h1 : l.length < 16
  · rw [if_pos h1]; simp
  rw [if_neg h1]
  by_cases h2 : vl l 0 8 ≠ mHave
  · rw [if_pos h2]; simp
  rw [if_neg h2]
  by_cases h3 : most < vl l 12 4
  · rw [if_pos h3]; exact hb
  rw [if_neg h3]
  by_cases h4 : l.length < 16 + vl l 12 4
  · rw [if_pos h4]; simp
  rw [if_neg h4]; exact hb
theorem cut_k {most ov : Nat} {l : List Nat} (h : ∀ x ∈ l, x < 256) {c k : Nat} {lg : Bool} {d : List Nat} {cu : Nat} {l' : List Nat} (hc : cutOf (0, 0, false, []) ov l (optF most l) = ((c, k, lg, d), cu, l')) : k < 4294967296 := by
  have e : k = (cutOf (0, 0, false, []) ov l (optF most l)).1.2.1 := by rw [hc]
  rw [e]
  have hb := optD_k most l h
  unfold cutOf
  by_cases h0 : 0 < ov
  · rw [if_pos h0]; simp
  rw [if_neg h0]
  by_cases h1 : (optF most l).2.2 = 0
  · rw [if_pos h1]; exact hb
  rw [if_neg h1]
  by_cases h2 : (optF most l).2.2 = 10
  · rw [if_pos h2]; simp
  rw [if_neg h2]
  by_cases h3 : (optF most l).2.2 = 12
  · rw [if_pos h3]; simp
  rw [if_neg h3]; simp
/-- a cut of an option: the message, the answer, how many are to be passed over, what is held -/
def optC (most ov : Nat) (l : List Nat) : (Nat × Nat × Bool × List Nat) × Nat × Nat × List Nat :=
  let r := cutOf (0, 0, false, []) ov l (optF most l)
  if r.1.2.2.1 = true then (r.1, r.2.1, r.1.2.1 - min r.2.2.length r.1.2.1, r.2.2.drop (min r.2.2.length r.1.2.1)) else (r.1, r.2.1, ov, r.2.2)
def OptI (w : World) (B b : Nat) (v : Value) (rm : Nat) (x : (Nat × Nat × Bool × List Nat) × Nat × Nat × List Nat) (e : Ending) (w' : World) : Prop :=
  ∃ (c k : Nat) (lg : Bool) (d : List Nat) (cu ov' : Nat) (l' : List Nat) (v' : Value) (ao2 : Option Addr) (cap2 : Nat), e = .returned (.tuple #[.agg #[.int .u32 (c : Int), .int .u32 (k : Int), .bool lg, .slice ao2 d.length cap2], .int .i64 (cu : Int)]) ∧ x = ((c, k, lg, d), cu, ov', l') ∧ Inb w' B b v' rm ov' l' ∧ IAct w w' b v v' ∧ w'.ownsRow w.heap.size 5 1 (.slice ao2 d.length cap2) d.length (d.map bv) ∧ ∀ g, (Value.slice ao2 d.length cap2).ownBlock = some g → v'.ownBlock ≠ some g
theorem Cf.told2 {w W W' : World} {B b : Nat} {v v' v'' : Value} {rm ov ov' : Nat} {l l' : List Nat} {bs : List (Nat × Array Value × TypeId)} {dv dv' : Value} {d d' : List Nat} (h : Cf w W B b v v' rm ov l bs dv d) (hi : Inb W' B b v'' rm ov' l') (ha : IAct W W' b v' v'') (hr : W'.ownsRow W.heap.size 5 1 dv' d'.length (d'.map bv)) (hn : ∀ g, dv'.ownBlock = some g → v''.ownBlock ≠ some g) : Cf w W' B b v v'' rm ov' l' bs dv' d' := by
  have h2 := h.acts hi ha
  exact ⟨h2.inb, h2.act, h2.bw, h2.box, h2.nd, owns_mono hr h.act.kept.size, hn⟩
set_option maxHeartbeats 8000000 in
theorem optionI {w : World} {B b : Nat} {v : Value} {rm ov : Nat} {l : List Nat} (h : Inb w B b v rm ov l) (most : Nat) (hm : most < 4294967296) :
    Calls Try.prog 24 #[.pointer (some ⟨b, 0, none⟩), .int .u32 (most : Int)] w fun e w' => OptI w B b v rm (optC most ov l) e w' := by
  have h5 : 57 ≠ 5 := by decide
  have h6 : 36 ≠ 5 := by decide
  obtain ⟨ao, cap, hv, hcr⟩ := h.row.crow
  obtain ⟨W0, hW0⟩ : ∃ W0, W0 = (w.alloc (.cells #[.int .u32 (most : Int)] 36)).alloc (.cells #[.int .u32 0, .int .u32 0, .bool false, Value.slice none 0 0] 57) := ⟨_, rfl⟩
  have hC0 := ((Cf.start h).alloc #[.int .u32 (most : Int)] 36 h6).alloc #[.int .u32 0, .int .u32 0, .bool false, Value.slice none 0 0] 57 h5
  rw [World.size_alloc, ← hW0] at hC0
  have H0 : Hid _ := hC0
  have hb0 : Below w.heap.size w W0 := by rw [hW0]; exact bx2_bel w _ _
  have hpm : W0.cell? ⟨w.heap.size, 0, none⟩ = some (.int .u32 (most : Int)) := by
    have := (hC0.c (.tail _ (.head _)) 0).1
    simpa using this
  have HCt : Hid _ := cutOption hC0.inb #[.pointer (some ⟨w.heap.size, 0, none⟩)] (optF most l) (optF_n most l) (fun W hW => by
      have hc : CRow W ao cap l := (hcr.later hb0).later hW
      have := option1 ao cap l most w.heap.size W hc hm (cell_later hW hpm)
      rw [hv]
      exact this)
  have HLt : Hid (∀ x ∈ l, x < 256) := hcr.row.lt
  clear hC0 hpm hb0 hcr hv
  go_enter Try.func24, Try.ntmps24
  go_wp2_with fail
  rw [← hW0]
  clear hW0
  refine Calls.mono HCt.out ?_
  rintro e W1 ⟨c, k, lg, d, cu, l', v', ao2, cap2, rfl, hcut, hI, hA, hr, hn⟩
  have HCu : Hid _ := hcut
  have H1 : Hid _ := (H0.out.told2 hI hA hr hn).alloc #[.int .u32 (c : Int), .int .u32 (k : Int), .bool lg, .slice ao2 d.length cap2] 57 h5
  clear HCt hcut hI hA hr hn H0
  have hkb : k < 4294967296 := cut_k HLt.out HCu.out
  cases lg with
  | false =>
    have HF : Hid _ := Cf.put (pre := [_]) (Cf.put (pre := [_]) (Cf.put (pre := [_]) (Cf.put (pre := [_]) H1.out 0 (.int .u32 (c : Int)) (cs' := #[.int .u32 (c : Int), .int .u32 0, .bool false, Value.slice none 0 0]) rfl) 1 (.int .u32 (k : Int)) (cs' := #[.int .u32 (c : Int), .int .u32 (k : Int), .bool false, Value.slice none 0 0]) rfl) 2 (.bool false) (cs' := #[.int .u32 (c : Int), .int .u32 (k : Int), .bool false, Value.slice none 0 0]) rfl) 3 (.slice ao2 d.length cap2) (cs' := #[.int .u32 (c : Int), .int .u32 (k : Int), .bool false, .slice ao2 d.length cap2]) rfl
    obtain ⟨a0, _⟩ := H1.out.c (.head _) 0
    obtain ⟨r0, f0⟩ := H1.out.c (.tail _ (.head _)) 0
    obtain ⟨a1, _⟩ := H1.out.c (.head _) 1
    obtain ⟨r1, f1⟩ := H1.out.c (.tail _ (.head _)) 1
    obtain ⟨a2, _⟩ := H1.out.c (.head _) 2
    obtain ⟨r2, f2⟩ := H1.out.c (.tail _ (.head _)) 2
    obtain ⟨a3, _⟩ := H1.out.c (.head _) 3
    obtain ⟨r3, f3⟩ := H1.out.c (.tail _ (.head _)) 3
    simp at a0 r0 a1 r1 a2 r2 a3 r3
    clear H1
    go_wp2
    exact bodyPost_ret (results_cell_tmp1 rfl _ _ (w.heap.size + 1) 57 #[.int .u32 (c : Int), .int .u32 (k : Int), .bool false, .slice ao2 d.length cap2] (0, 0) _ rfl (HF.out.box _ (.tail _ (.head _))).1 Try.underlying57 rfl infoOpt) rfl ⟨c, k, false, d, cu, ov, l', v', ao2, cap2, rfl, by unfold optC; rw [HCu.out]; rfl, HF.out.inb, HF.out.act, HF.out.row, HF.out.rn⟩
  | true =>
    obtain ⟨p, hp⟩ : ∃ p, min l'.length k = p := ⟨_, rfl⟩
    have c1 := H1.out.inb.c 1
    have c2 := H1.out.inb.c 2
    have f2 := H1.out.inb.f 2
    simp at c1 c2
    obtain ⟨a0, _⟩ := H1.out.c (.head _) 0
    obtain ⟨r0, f0⟩ := H1.out.c (.tail _ (.head _)) 0
    obtain ⟨a1, _⟩ := H1.out.c (.head _) 1
    obtain ⟨r1, f1⟩ := H1.out.c (.tail _ (.head _)) 1
    obtain ⟨a2, _⟩ := H1.out.c (.head _) 2
    obtain ⟨r2, f2⟩ := H1.out.c (.tail _ (.head _)) 2
    obtain ⟨a3, _⟩ := H1.out.c (.head _) 3
    obtain ⟨r3, f3⟩ := H1.out.c (.tail _ (.head _)) 3
    simp at a0 r0 a1 r1 a2 r2 a3 r3
    have hPo := H1.out.inb.putO k hkb
    have H2 : Hid _ := H1.out.acts hPo.1 (IAct.ofKept hPo.2)
    have HPs : Hid _ := passI hPo.1 l'.length p (by have := hPo.1.row.len; omega) hp
    obtain ⟨vo, vc, hv', _⟩ := H1.out.inb.row.crow
    subst hv'
    clear H1 hPo
    go_wp2_with fail
    refine Calls.mono HPs.out ?_
    rintro e W3 ⟨rfl, hI3, hK3⟩
    have H3 : Hid _ := H2.out.acts hI3 (IAct.ofKept hK3)
    have HDr : Hid _ := dropI hI3 p (by omega)
    clear HPs H2 hI3 hK3
    go_wp2_with fail
    refine Calls.mono HDr.out ?_
    rintro e W4 ⟨rfl, v4, hI4, hA4⟩
    have H4 : Hid _ := H3.out.acts hI4 hA4
    clear HDr H3 hI4 hA4
    have HF : Hid _ := Cf.put (pre := [_]) (Cf.put (pre := [_]) (Cf.put (pre := [_]) (Cf.put (pre := [_]) H4.out 0 (.int .u32 (c : Int)) (cs' := #[.int .u32 (c : Int), .int .u32 0, .bool false, Value.slice none 0 0]) rfl) 1 (.int .u32 (k : Int)) (cs' := #[.int .u32 (c : Int), .int .u32 (k : Int), .bool false, Value.slice none 0 0]) rfl) 2 (.bool true) (cs' := #[.int .u32 (c : Int), .int .u32 (k : Int), .bool true, Value.slice none 0 0]) rfl) 3 (.slice ao2 d.length cap2) (cs' := #[.int .u32 (c : Int), .int .u32 (k : Int), .bool true, .slice ao2 d.length cap2]) rfl
    obtain ⟨a0, _⟩ := H4.out.c (.head _) 0
    obtain ⟨r0, f0⟩ := H4.out.c (.tail _ (.head _)) 0
    obtain ⟨a1, _⟩ := H4.out.c (.head _) 1
    obtain ⟨r1, f1⟩ := H4.out.c (.tail _ (.head _)) 1
    obtain ⟨a2, _⟩ := H4.out.c (.head _) 2
    obtain ⟨r2, f2⟩ := H4.out.c (.tail _ (.head _)) 2
    obtain ⟨a3, _⟩ := H4.out.c (.head _) 3
    obtain ⟨r3, f3⟩ := H4.out.c (.tail _ (.head _)) 3
    simp at a0 r0 a1 r1 a2 r2 a3 r3
    clear H4
    go_wp2
    exact bodyPost_ret (results_cell_tmp1 rfl _ _ (w.heap.size + 1) 57 #[.int .u32 (c : Int), .int .u32 (k : Int), .bool true, .slice ao2 d.length cap2] (0, 0) _ rfl (HF.out.box _ (.tail _ (.head _))).1 Try.underlying57 rfl infoOpt) rfl ⟨c, k, true, d, cu, k - p, l'.drop p, v4, ao2, cap2, rfl, by unfold optC; rw [HCu.out, ← hp]; rfl, HF.out.inb, HF.out.act, HF.out.row, HF.out.rn⟩
end Go.Proofs.Ytckfmpoddmccfaa
namespace Go.Proofs.Ytckfmpoddmccfaa
open Go.RowKit
set_option linter.unusedVariables false
set_option linter.unusedSimpArgs false
set_option maxRecDepth 100000
theorem decRequestA0 (ao : Option Addr) (cap : Nat) (l : List Nat) (most : Nat) (w : World) (h : CRow w ao cap l) (hm : most < 4294967296) :
    Calls Try.prog 78 #[.slice ao l.length cap, .int .u32 (most : Int), .bool false] w fun e w' => ∃ (f t c o k : Nat) (d : List Nat) (n er : Nat) (ao2 : Option Addr) (cap2 : Nat), e = .returned (.tuple #[.agg #[.int .u16 (f : Int), .int .u16 (t : Int), .int .u64 (c : Int), .int .u64 (o : Int), .int .u64 (k : Int), .slice ao2 d.length cap2], .int .i64 (n : Int), .int .i64 (er : Int)]) ∧ reqD most false l = ((f, t, c, o, k, d), n, er) ∧ Row w w' ao2 cap2 d := by
  unfold reqD
  rw [show qz false = 28 from rfl, show qm false = mReq from rfl, show qk false = 4 from rfl]
  by_cases h1 : l.length < 28
  · rw [if_pos h1]
    refine (decRequest0_short ao cap l.length most w h1).mono ?_
    rintro e w' ⟨rfl, hb⟩
    exact ⟨0, 0, 0, 0, 0, [], 28, 10, none, 0, rfl, rfl, row_nil w w' hb⟩
  rw [if_neg h1]
  obtain ⟨b, off, rfl⟩ := h.some (by omega)
  by_cases h2 : vl l 0 4 ≠ mReq
  · rw [if_pos h2]
    refine (decRequest0_magic b off cap l.length l most w h rfl (by omega) h2).mono ?_
    rintro e w' ⟨rfl, hb⟩
    exact ⟨0, 0, 0, 0, 0, [], 0, 80, none, 0, rfl, rfl, row_nil w w' hb⟩
  rw [if_neg h2]
  have h2' : vl l 0 4 = mReq := Classical.byContradiction h2
  have b0 : vl l 24 4 < 4294967296 := by simpa using vl_lt h 24 4
  by_cases hp : payB (vl l 4 2) (vl l 6 2) false = false
  · rw [if_pos hp]
    refine (decRequest0_plain b off cap l.length l most (vl l 4 2) (vl l 6 2) (vl l 8 8) (vl l 16 8) (vl l 24 4) w h rfl (by omega) h2' rfl rfl rfl rfl rfl (Nat.lt_of_lt_of_le b0 (by decide)) hm hp).mono ?_
    rintro e w' ⟨ao2, cap2, rfl, hr⟩
    exact ⟨_, _, _, _, _, [], 28, 0, ao2, cap2, rfl, rfl, hr⟩
  rw [if_neg hp]
  have hp' : payB (vl l 4 2) (vl l 6 2) false = true := by simpa using hp
  by_cases h3 : most < vl l 24 4
  · rw [if_pos h3]
    refine (decRequest0_long b off cap l.length l most (vl l 4 2) (vl l 6 2) (vl l 8 8) (vl l 16 8) (vl l 24 4) w h rfl (by omega) h2' rfl rfl rfl rfl rfl (Nat.lt_of_lt_of_le b0 (by decide)) hm hp' h3).mono ?_
    rintro e w' ⟨ao2, cap2, rfl, hr⟩
    exact ⟨_, _, _, _, _, [], 28, 12, ao2, cap2, rfl, rfl, hr⟩
  rw [if_neg h3]
  by_cases h4 : l.length < 28 + vl l 24 4
  · rw [if_pos h4]
    refine (decRequest0_short2 b off cap l.length l most (vl l 4 2) (vl l 6 2) (vl l 8 8) (vl l 16 8) (vl l 24 4) w h rfl (by omega) h2' rfl rfl rfl rfl rfl (Nat.lt_of_lt_of_le b0 (by decide)) hm hp' (by omega) (by omega) _ rfl).mono ?_
    rintro e w' ⟨rfl, hb⟩
    exact ⟨0, 0, 0, 0, 0, [], _, 10, none, 0, rfl, rfl, row_nil w w' hb⟩
  rw [if_neg h4]
  refine (decRequest0_ok b off cap l.length l most (vl l 4 2) (vl l 6 2) (vl l 8 8) (vl l 16 8) (vl l 24 4) w h rfl (by omega) h2' rfl rfl rfl rfl rfl (Nat.lt_of_lt_of_le b0 (by decide)) hm hp' (by omega) (by omega) _ rfl _ rfl).mono ?_
  rintro e w' ⟨ao2, cap2, rfl, ho, hb⟩
  have hlen : ((l.drop 28).take (vl l 24 4)).length = vl l 24 4 := by rw [List.length_take, List.length_drop]; omega
  refine ⟨_, _, _, _, _, (l.drop 28).take (vl l 24 4), _, 0, ao2, cap2, by rw [hlen]; rfl, rfl, ?_, fun x hx => h.row.lt x (List.mem_of_mem_drop (List.mem_of_mem_take hx)), hb⟩
  rw [hlen]; exact ho
theorem decRequestA1 (ao : Option Addr) (cap : Nat) (l : List Nat) (most : Nat) (w : World) (h : CRow w ao cap l) (hm : most < 4294967296) :
    Calls Try.prog 78 #[.slice ao l.length cap, .int .u32 (most : Int), .bool true] w fun e w' => ∃ (f t c o k : Nat) (d : List Nat) (n er : Nat) (ao2 : Option Addr) (cap2 : Nat), e = .returned (.tuple #[.agg #[.int .u16 (f : Int), .int .u16 (t : Int), .int .u64 (c : Int), .int .u64 (o : Int), .int .u64 (k : Int), .slice ao2 d.length cap2], .int .i64 (n : Int), .int .i64 (er : Int)]) ∧ reqD most true l = ((f, t, c, o, k, d), n, er) ∧ Row w w' ao2 cap2 d := by
  unfold reqD
  rw [show qz true = 32 from rfl, show qm true = mReq64 from rfl, show qk true = 8 from rfl]
  by_cases h1 : l.length < 32
  · rw [if_pos h1]
    refine (decRequest1_short ao cap l.length most w h1).mono ?_
    rintro e w' ⟨rfl, hb⟩
    exact ⟨0, 0, 0, 0, 0, [], 32, 10, none, 0, rfl, rfl, row_nil w w' hb⟩
  rw [if_neg h1]
  obtain ⟨b, off, rfl⟩ := h.some (by omega)
  by_cases h2 : vl l 0 4 ≠ mReq64
  · rw [if_pos h2]
    refine (decRequest1_magic b off cap l.length l most w h rfl (by omega) h2).mono ?_
    rintro e w' ⟨rfl, hb⟩
    exact ⟨0, 0, 0, 0, 0, [], 0, 80, none, 0, rfl, rfl, row_nil w w' hb⟩
  rw [if_neg h2]
  have h2' : vl l 0 4 = mReq64 := Classical.byContradiction h2
  have b0 : vl l 24 8 < 18446744073709551616 := by simpa using vl_lt h 24 8
  by_cases hp : payB (vl l 4 2) (vl l 6 2) true = false
  · rw [if_pos hp]
    refine (decRequest1_plain b off cap l.length l most (vl l 4 2) (vl l 6 2) (vl l 8 8) (vl l 16 8) (vl l 24 8) w h rfl (by omega) h2' rfl rfl rfl rfl rfl (Nat.lt_of_lt_of_le b0 (by decide)) hm hp).mono ?_
    rintro e w' ⟨ao2, cap2, rfl, hr⟩
    exact ⟨_, _, _, _, _, [], 32, 0, ao2, cap2, rfl, rfl, hr⟩
  rw [if_neg hp]
  have hp' : payB (vl l 4 2) (vl l 6 2) true = true := by simpa using hp
  by_cases h3 : most < vl l 24 8
  · rw [if_pos h3]
    refine (decRequest1_long b off cap l.length l most (vl l 4 2) (vl l 6 2) (vl l 8 8) (vl l 16 8) (vl l 24 8) w h rfl (by omega) h2' rfl rfl rfl rfl rfl (Nat.lt_of_lt_of_le b0 (by decide)) hm hp' h3).mono ?_
    rintro e w' ⟨ao2, cap2, rfl, hr⟩
    exact ⟨_, _, _, _, _, [], 32, 12, ao2, cap2, rfl, rfl, hr⟩
  rw [if_neg h3]
  by_cases h4 : l.length < 32 + vl l 24 8
  · rw [if_pos h4]
    refine (decRequest1_short2 b off cap l.length l most (vl l 4 2) (vl l 6 2) (vl l 8 8) (vl l 16 8) (vl l 24 8) w h rfl (by omega) h2' rfl rfl rfl rfl rfl (Nat.lt_of_lt_of_le b0 (by decide)) hm hp' (by omega) (by omega) _ rfl).mono ?_
    rintro e w' ⟨rfl, hb⟩
    exact ⟨0, 0, 0, 0, 0, [], _, 10, none, 0, rfl, rfl, row_nil w w' hb⟩
  rw [if_neg h4]
  refine (decRequest1_ok b off cap l.length l most (vl l 4 2) (vl l 6 2) (vl l 8 8) (vl l 16 8) (vl l 24 8) w h rfl (by omega) h2' rfl rfl rfl rfl rfl (Nat.lt_of_lt_of_le b0 (by decide)) hm hp' (by omega) (by omega) _ rfl _ rfl).mono ?_
  rintro e w' ⟨ao2, cap2, rfl, ho, hb⟩
  have hlen : ((l.drop 32).take (vl l 24 8)).length = vl l 24 8 := by rw [List.length_take, List.length_drop]; omega
  refine ⟨_, _, _, _, _, (l.drop 32).take (vl l 24 8), _, 0, ao2, cap2, by rw [hlen]; rfl, rfl, ?_, fun x hx => h.row.lt x (List.mem_of_mem_drop (List.mem_of_mem_take hx)), hb⟩
  rw [hlen]; exact ho
theorem decRequestA (ao : Option Addr) (cap : Nat) (l : List Nat) (most : Nat) (ext : Bool) (w : World) (h : CRow w ao cap l) (hm : most < 4294967296) :
    Calls Try.prog 78 #[.slice ao l.length cap, .int .u32 (most : Int), .bool ext] w fun e w' => ∃ (f t c o k : Nat) (d : List Nat) (n er : Nat) (ao2 : Option Addr) (cap2 : Nat), e = .returned (.tuple #[.agg #[.int .u16 (f : Int), .int .u16 (t : Int), .int .u64 (c : Int), .int .u64 (o : Int), .int .u64 (k : Int), .slice ao2 d.length cap2], .int .i64 (n : Int), .int .i64 (er : Int)]) ∧ reqD most ext l = ((f, t, c, o, k, d), n, er) ∧ Row w w' ao2 cap2 d := by
  cases ext with
  | false => exact decRequestA0 ao cap l most w h hm
  | true => exact decRequestA1 ao cap l most w h hm
theorem decChunkA0 (ao : Option Addr) (cap : Nat) (l : List Nat) (most : Nat) (w : World) (h : CRow w ao cap l) (hm : most < 4294967296) :
    Calls Try.prog 112 #[.slice ao l.length cap, .int .u32 (most : Int), .bool false] w fun e w' => ∃ (f t c o : Nat) (d : List Nat) (n er : Nat) (ao2 : Option Addr) (cap2 : Nat), e = .returned (.tuple #[.agg #[.int .u16 (f : Int), .int .u16 (t : Int), .int .u64 (c : Int), .int .u64 (o : Int), .slice ao2 d.length cap2], .int .i64 (n : Int), .int .i64 (er : Int)]) ∧ chkD most false l = ((f, t, c, o, d), n, er) ∧ Row w w' ao2 cap2 d := by
  unfold chkD
  rw [show cz false = 20 from rfl, show cm false = mChunk from rfl, show cof false l = 0 from rfl, show cln false l = vl l 16 4 from rfl]
  by_cases h1 : l.length < 20
  · rw [if_pos h1]
    refine (decChunk0_short ao cap l.length most w h1).mono ?_
    rintro e w' ⟨rfl, hb⟩
    exact ⟨0, 0, 0, 0, [], 20, 10, none, 0, rfl, rfl, row_nil w w' hb⟩
  rw [if_neg h1]
  obtain ⟨b, off, rfl⟩ := h.some (by omega)
  by_cases h2 : vl l 0 4 ≠ mChunk
  · rw [if_pos h2]
    refine (decChunk0_magic b off cap l.length l most w h rfl (by omega) h2).mono ?_
    rintro e w' ⟨rfl, hb⟩
    exact ⟨0, 0, 0, 0, [], 0, 80, none, 0, rfl, rfl, row_nil w w' hb⟩
  rw [if_neg h2]
  have h2' : vl l 0 4 = mChunk := Classical.byContradiction h2
  have b0 : vl l 16 4 < 4294967296 := by simpa using vl_lt h 16 4
  by_cases h3 : most < vl l 16 4
  · rw [if_pos h3]
    refine (decChunk0_long b off cap l.length l most (vl l 4 2) (vl l 6 2) (vl l 8 8) (vl l 16 4) w h rfl (by omega) h2' rfl rfl rfl rfl (Nat.lt_of_lt_of_le b0 (by decide)) hm h3).mono ?_
    rintro e w' ⟨ao2, cap2, rfl, hr⟩
    exact ⟨_, _, _, 0, [], 20, 12, ao2, cap2, rfl, rfl, hr⟩
  rw [if_neg h3]
  by_cases h4 : l.length < 20 + vl l 16 4
  · rw [if_pos h4]
    refine (decChunk0_short2 b off cap l.length l most (vl l 4 2) (vl l 6 2) (vl l 8 8) (vl l 16 4) w h rfl (by omega) h2' rfl rfl rfl rfl (Nat.lt_of_lt_of_le b0 (by decide)) hm (by omega) (by omega) _ rfl).mono ?_
    rintro e w' ⟨rfl, hb⟩
    exact ⟨0, 0, 0, 0, [], _, 10, none, 0, rfl, rfl, row_nil w w' hb⟩
  rw [if_neg h4]
  refine (decChunk0_ok b off cap l.length l most (vl l 4 2) (vl l 6 2) (vl l 8 8) (vl l 16 4) w h rfl (by omega) h2' rfl rfl rfl rfl (Nat.lt_of_lt_of_le b0 (by decide)) hm (by omega) (by omega) _ rfl _ rfl).mono ?_
  rintro e w' ⟨ao2, cap2, rfl, ho, hb⟩
  have hlen : ((l.drop 20).take (vl l 16 4)).length = vl l 16 4 := by rw [List.length_take, List.length_drop]; omega
  refine ⟨_, _, _, 0, (l.drop 20).take (vl l 16 4), _, 0, ao2, cap2, by rw [hlen]; rfl, rfl, ?_, fun x hx => h.row.lt x (List.mem_of_mem_drop (List.mem_of_mem_take hx)), hb⟩
  rw [hlen]; exact ho
theorem decChunkA1 (ao : Option Addr) (cap : Nat) (l : List Nat) (most : Nat) (w : World) (h : CRow w ao cap l) (hm : most < 4294967296) :
    Calls Try.prog 112 #[.slice ao l.length cap, .int .u32 (most : Int), .bool true] w fun e w' => ∃ (f t c o : Nat) (d : List Nat) (n er : Nat) (ao2 : Option Addr) (cap2 : Nat), e = .returned (.tuple #[.agg #[.int .u16 (f : Int), .int .u16 (t : Int), .int .u64 (c : Int), .int .u64 (o : Int), .slice ao2 d.length cap2], .int .i64 (n : Int), .int .i64 (er : Int)]) ∧ chkD most true l = ((f, t, c, o, d), n, er) ∧ Row w w' ao2 cap2 d := by
  unfold chkD
  rw [show cz true = 32 from rfl, show cm true = mChunk64 from rfl, show cof true l = vl l 16 8 from rfl, show cln true l = vl l 24 8 from rfl]
  by_cases h1 : l.length < 32
  · rw [if_pos h1]
    refine (decChunk1_short ao cap l.length most w h1).mono ?_
    rintro e w' ⟨rfl, hb⟩
    exact ⟨0, 0, 0, 0, [], 32, 10, none, 0, rfl, rfl, row_nil w w' hb⟩
  rw [if_neg h1]
  obtain ⟨b, off, rfl⟩ := h.some (by omega)
  by_cases h2 : vl l 0 4 ≠ mChunk64
  · rw [if_pos h2]
    refine (decChunk1_magic b off cap l.length l most w h rfl (by omega) h2).mono ?_
    rintro e w' ⟨rfl, hb⟩
    exact ⟨0, 0, 0, 0, [], 0, 80, none, 0, rfl, rfl, row_nil w w' hb⟩
  rw [if_neg h2]
  have h2' : vl l 0 4 = mChunk64 := Classical.byContradiction h2
  have b0 : vl l 24 8 < 18446744073709551616 := by simpa using vl_lt h 24 8
  by_cases h3 : most < vl l 24 8
  · rw [if_pos h3]
    refine (decChunk1_long b off cap l.length l most (vl l 4 2) (vl l 6 2) (vl l 8 8) (vl l 16 8) (vl l 24 8) w h rfl (by omega) h2' rfl rfl rfl rfl rfl (Nat.lt_of_lt_of_le b0 (by decide)) hm h3).mono ?_
    rintro e w' ⟨ao2, cap2, rfl, hr⟩
    exact ⟨_, _, _, _, [], 32, 12, ao2, cap2, rfl, rfl, hr⟩
  rw [if_neg h3]
  by_cases h4 : l.length < 32 + vl l 24 8
  · rw [if_pos h4]
    refine (decChunk1_short2 b off cap l.length l most (vl l 4 2) (vl l 6 2) (vl l 8 8) (vl l 16 8) (vl l 24 8) w h rfl (by omega) h2' rfl rfl rfl rfl rfl (Nat.lt_of_lt_of_le b0 (by decide)) hm (by omega) (by omega) _ rfl).mono ?_
    rintro e w' ⟨rfl, hb⟩
    exact ⟨0, 0, 0, 0, [], _, 10, none, 0, rfl, rfl, row_nil w w' hb⟩
  rw [if_neg h4]
  refine (decChunk1_ok b off cap l.length l most (vl l 4 2) (vl l 6 2) (vl l 8 8) (vl l 16 8) (vl l 24 8) w h rfl (by omega) h2' rfl rfl rfl rfl rfl (Nat.lt_of_lt_of_le b0 (by decide)) hm (by omega) (by omega) _ rfl _ rfl).mono ?_
  rintro e w' ⟨ao2, cap2, rfl, ho, hb⟩
  have hlen : ((l.drop 32).take (vl l 24 8)).length = vl l 24 8 := by rw [List.length_take, List.length_drop]; omega
  refine ⟨_, _, _, _, (l.drop 32).take (vl l 24 8), _, 0, ao2, cap2, by rw [hlen]; rfl, rfl, ?_, fun x hx => h.row.lt x (List.mem_of_mem_drop (List.mem_of_mem_take hx)), hb⟩
  rw [hlen]; exact ho
theorem decChunkA (ao : Option Addr) (cap : Nat) (l : List Nat) (most : Nat) (ext : Bool) (w : World) (h : CRow w ao cap l) (hm : most < 4294967296) :
    Calls Try.prog 112 #[.slice ao l.length cap, .int .u32 (most : Int), .bool ext] w fun e w' => ∃ (f t c o : Nat) (d : List Nat) (n er : Nat) (ao2 : Option Addr) (cap2 : Nat), e = .returned (.tuple #[.agg #[.int .u16 (f : Int), .int .u16 (t : Int), .int .u64 (c : Int), .int .u64 (o : Int), .slice ao2 d.length cap2], .int .i64 (n : Int), .int .i64 (er : Int)]) ∧ chkD most ext l = ((f, t, c, o, d), n, er) ∧ Row w w' ao2 cap2 d := by
  cases ext with
  | false => exact decChunkA0 ao cap l most w h hm
  | true => exact decChunkA1 ao cap l most w h hm
end Go.Proofs.Ytckfmpoddmccfaa
namespace Go.Proofs.Ytckfmpoddmccfaa
open Go.RowKit
set_option linter.unusedVariables false
set_option linter.unusedSimpArgs false
set_option maxRecDepth 100000
theorem greD_n (l : List Nat) (h : (greD l).2.2 = 0) : (greD l).2.1 ≤ l.length := by
  unfold greD at h ⊢
  by_cases h0 : l.length < 18
  · rw [if_pos h0] at h; simp at h
  rw [if_neg h0] at h ⊢
  by_cases h1 : vl l 0 8 ≠ mInit
  · rw [if_pos h1] at h; simp at h
  rw [if_neg h1] at h ⊢
  by_cases h2 : vl l 8 8 ≠ mHave
  · rw [if_pos h2] at h; simp at h
  rw [if_neg h2] at h ⊢
  simp only
  omega
theorem expD_n (z : Bool) (l : List Nat) (h : (expD z l).2.2 = 0) : (expD z l).2.1 ≤ l.length := by
  unfold expD at h ⊢
  by_cases h0 : l.length < xz z
  · rw [if_pos h0] at h; simp at h
  rw [if_neg h0] at h ⊢
  by_cases h1 : xzs z l = false
  · rw [if_pos h1] at h; simp at h
  rw [if_neg h1] at h ⊢
  simp only
  omega
theorem simD_n (l : List Nat) (h : (simD l).2.2 = 0) : (simD l).2.1 ≤ l.length := by
  unfold simD at h ⊢
  by_cases h0 : l.length < 16
  · rw [if_pos h0] at h; simp at h
  rw [if_neg h0] at h ⊢
  by_cases h1 : vl l 0 4 ≠ mSimple
  · rw [if_pos h1] at h; simp at h
  rw [if_neg h1] at h ⊢
  simp only
  omega
theorem repD_n (most : Nat) (l : List Nat) (h : (repD most l).2.2 = 0) : (repD most l).2.1 ≤ l.length := by
  unfold repD at h ⊢
  by_cases h0 : l.length < 20
  · rw [if_pos h0] at h; simp at h
  rw [if_neg h0] at h ⊢
  by_cases h1 : vl l 0 8 ≠ mReply
  · rw [if_pos h1] at h; simp at h
  rw [if_neg h1] at h ⊢
  by_cases h2 : most < vl l 16 4
  · rw [if_pos h2] at h; simp at h
  rw [if_neg h2] at h ⊢
  by_cases h3 : l.length < 20 + vl l 16 4
  · rw [if_pos h3] at h; simp at h
  rw [if_neg h3] at h ⊢
  simp only
  omega
theorem reqD_n (most : Nat) (ext : Bool) (l : List Nat) (h : (reqD most ext l).2.2 = 0) : (reqD most ext l).2.1 ≤ l.length := by
  unfold reqD at h ⊢
  by_cases h0 : l.length < qz ext
  · rw [if_pos h0] at h; simp at h
  rw [if_neg h0] at h ⊢
  by_cases h1 : vl l 0 4 ≠ qm ext
  · rw [if_pos h1] at h; simp at h
  rw [if_neg h1] at h ⊢
  by_cases h2 : payB (vl l 4 2) (vl l 6 2) ext = false
  · rw [if_pos h2]; simp only; omega
  rw [if_neg h2] at h ⊢
  by_cases h3 : most < vl l 24 (qk ext)
  · rw [if_pos h3] at h; simp at h
  rw [if_neg h3] at h ⊢
  by_cases h4 : l.length < qz ext + vl l 24 (qk ext)
  · rw [if_pos h4] at h; simp at h
  rw [if_neg h4] at h ⊢
  simp only
  omega
theorem chkD_n (most : Nat) (ext : Bool) (l : List Nat) (h : (chkD most ext l).2.2 = 0) : (chkD most ext l).2.1 ≤ l.length := by
  unfold chkD at h ⊢
  by_cases h0 : l.length < cz ext
  · rw [if_pos h0] at h; simp at h
  rw [if_neg h0] at h ⊢
  by_cases h1 : vl l 0 4 ≠ cm ext
  · rw [if_pos h1] at h; simp at h
  rw [if_neg h1] at h ⊢
  by_cases h2 : most < cln ext l
  · rw [if_pos h2] at h; simp at h
  rw [if_neg h2] at h ⊢
  by_cases h3 : l.length < cz ext + cln ext l
  · rw [if_pos h3] at h; simp at h
  rw [if_neg h3] at h ⊢
  simp only
  omega
end Go.Proofs.Ytckfmpoddmccfaa
namespace Go.Proofs.Ytckfmpoddmccfaa
open Go.RowKit
set_option linter.unusedVariables false
set_option linter.unusedSimpArgs false
set_option maxRecDepth 100000
/-- so many bytes off the front -/
def datD (z : Int) (l : List Nat) : List Nat × Nat × Nat :=
  if z < 0 then ([], 0, 81) else if (l.length : Int) < z then ([], z.toNat, 10) else (l.take z.toNat, z.toNat, 0)
theorem datD_n (z : Int) (l : List Nat) (h : (datD z l).2.2 = 0) : (datD z l).2.1 ≤ l.length := by
  unfold datD at h ⊢
  by_cases h0 : z < 0
  · rw [if_pos h0] at h; simp at h
  rw [if_neg h0] at h ⊢
  by_cases h1 : (l.length : Int) < z
  · rw [if_pos h1] at h; simp at h
  rw [if_neg h1]; simp only; omega
def DatP (D : List Nat × Nat × Nat) (w : World) (e : Ending) (w' : World) : Prop :=
  ∃ (d : List Nat) (n er : Nat) (ao2 : Option Addr) (cap2 : Nat), e = .returned (.tuple #[.slice ao2 d.length cap2, .int .i64 (n : Int), .int .i64 (er : Int)]) ∧ D = (d, n, er) ∧ Row w w' ao2 cap2 d
set_option maxHeartbeats 1000000 in
theorem decData_neg (ao : Option Addr) (cap n : Nat) (l : List Nat) (z : Int) (w : World) (hz : z < 0) :
    Calls Try.prog 84 #[.slice ao n cap, .int .i64 z] w fun e w' => DatP (datD z l) w e w' := by
  have t2 : decide (z < 0) = true := by simpa using hz
  have HE : Hid (datD z l = ([], 0, 81)) := by show datD z l = _; unfold datD; rw [if_pos hz]
  go_enter Try.func84, Try.ntmps84
  go_wp2
  go_ret3
  exact ⟨[], 0, 81, none, 0, rfl, HE.out, World.ownsRow_nil _ _ _ _, by simp, Below.refl _ _⟩
set_option maxHeartbeats 1000000 in
theorem decData_short (ao : Option Addr) (cap n : Nat) (l : List Nat) (k : Nat) (w : World) (hl : l.length = n) (hz : n < k) :
    Calls Try.prog 84 #[.slice ao n cap, .int .i64 (k : Int)] w fun e w' => DatP (datD (k : Int) l) w e w' := by
  have u1 : ¬ ((k : Int) < 0) := by omega
  have u2 : decide ((k : Int) < 0) = false := by simp
  have t1 : (n : Int) < (k : Int) := by omega
  have t2 : decide ((n : Int) < (k : Int)) = true := by simpa using t1
  have HE : Hid (datD (k : Int) l = ([], k, 10)) := by show datD (k : Int) l = _; unfold datD; rw [if_neg u1, if_pos (by omega)]; simp
  clear hl
  go_enter Try.func84, Try.ntmps84
  go_wp2
  go_ret3
  exact ⟨[], k, 10, none, 0, rfl, HE.out, World.ownsRow_nil _ _ _ _, by simp, Below.refl _ _⟩
set_option maxHeartbeats 1000000 in
theorem decData_none (w : World) :
    Calls Try.prog 84 #[.slice none 0 0, .int .i64 0] w fun e w' => DatP (datD 0 []) w e w' := by
  obtain ⟨i0, hi, hz0, hz1, hz2⟩ := info_parts Try.info5
  go_enter Try.func84, Try.ntmps84
  go_wp2_with (at_builtin; refine wpList_append_own_none rfl _ _ 22 rfl w.heap.size 5 i0 1 Try.underlying22 hi _ 0 [] rfl (World.ownsRow_nil _ _ _ _) rfl ?_)
  go_ret3
  exact ⟨[], 0, 0, none, 0, rfl, by decide, World.ownsRow_nil _ _ _ _, by simp, Below.refl _ _⟩
set_option maxHeartbeats 2000000 in
theorem decData_ok (ad : Addr) (cap n : Nat) (l : List Nat) (k : Nat) (w : World) (h : CRow w (some ad) cap l) (hl : l.length = n) (hk : k ≤ n) :
    Calls Try.prog 84 #[.slice (some ad) n cap, .int .i64 (k : Int)] w fun e w' => DatP (datD (k : Int) l) w e w' := by
  obtain ⟨i0, hi, hz0, hz1, hz2⟩ := info_parts Try.info5
  obtain ⟨m, hm⟩ : ∃ m, l.take k = m := ⟨_, rfl⟩
  have HM : Hid (m.length = k) := by show m.length = k; rw [← hm, List.length_take]; omega
  have HX : Hid (∀ x ∈ m, x < 256) := fun x hx => h.row.lt x (List.mem_of_mem_take (hm ▸ hx))
  have HN : Hid (∀ j u, (m.map bv)[j]? = some u → w.cell? (ad.add j) = some u) := by
    intro j u hu
    have hM : m.length = k := HM.out
    rw [List.getElem?_map] at hu
    by_cases hj : j < m.length
    · rw [List.getElem?_eq_getElem hj] at hu
      obtain ⟨b', off', e, hc⟩ := h.row.at_ (by rintro rfl; simp at hl; omega)
      cases e
      simp only [Option.map_some, Option.some.injEq] at hu
      subst hu
      rw [add_plain, hc j (by omega)]
      subst hm
      simp
    · rw [List.getElem?_eq_none (by omega)] at hu; simp at hu
  have hlen := h.row.len
  have H1 : Hid (∀ u ∈ m.map bv, u.oneCell' = true) := by
    intro u hu
    obtain ⟨x, _, rfl⟩ := List.mem_map.1 hu
    rfl
  have u1 : ¬ ((k : Int) < 0) := by omega
  have u2 : decide ((k : Int) < 0) = false := by simp
  have t1 : ¬ ((n : Int) < (k : Int)) := by omega
  have t2 : decide ((n : Int) < (k : Int)) = false := by simpa using t1
  have HE : Hid (datD (k : Int) l = (m, k, 0)) := by show datD (k : Int) l = _; unfold datD; rw [if_neg u1, if_neg (by omega), ← hm]; simp
  have hc1 := h.cap1
  have hc2 := h.cap2
  have c4 : (k : Int) ≤ (cap : Int) := by omega
  have c5 : k ≤ cap := by omega
  have HML : Hid ((m.map bv).length = k) := by show (m.map bv).length = k; rw [List.length_map]; exact HM.out
  rw [hl] at hc1 hlen
  clear h hl hm
  go_enter Try.func84, Try.ntmps84
  go_wp2_with (at_builtin; refine wpList_append_own _ rfl _ _ 22 rfl w.heap.size 5 i0 (.int .u8 0) 1 1 Try.underlying22 hi hz0 hz1 hz2 rfl (by decide) _ 0 [] rfl (World.ownsRow_nil _ _ _ _) ad k cap (m.map bv) rfl (by rw [HML.out]; simp) HN.out H1.out (by unfold maxLen; omega) (by omega) (Nat.le_refl _) ?_)
  intro v' w1 hown hgrow _
  have hb : Below w.heap.size w w1 := (Below.refl _ _).grown hgrow (Nat.le_refl _) (by simp [Value.ownBlock])
  clear hgrow
  have ho : w1.ownsRow w.heap.size 5 1 v' m.length (m.map bv) := by
    rw [HM.out]; simpa using hown
  obtain ⟨ao2, cap2, rfl, _⟩ := BRow.own ho HX.out (by rw [HM.out]; omega)
  have HO : Hid _ := ho
  have HB : Hid _ := hb
  clear ho hown hb
  go_wp2
  go_ret3
  exact ⟨m, k, 0, ao2, cap2, rfl, HE.out, HO.out, HX.out, HB.out⟩
theorem decDataA (ao : Option Addr) (cap : Nat) (l : List Nat) (z : Int) (w : World) (h : CRow w ao cap l) :
    Calls Try.prog 84 #[.slice ao l.length cap, .int .i64 z] w fun e w' => DatP (datD z l) w e w' := by
  by_cases hz : z < 0
  · exact decData_neg ao cap l.length l z w hz
  obtain ⟨k, rfl⟩ := Int.eq_ofNat_of_zero_le (show 0 ≤ z by omega)
  by_cases hk : l.length < k
  · exact decData_short ao cap l.length l k w rfl hk
  cases ao with
  | none =>
    obtain ⟨rfl, rfl⟩ := h.row.nil rfl
    obtain rfl : k = 0 := by simp at hk; omega
    exact decData_none w
  | some ad => exact decData_ok ad cap l.length l k w h rfl (by omega)
end Go.Proofs.Ytckfmpoddmccfaa
