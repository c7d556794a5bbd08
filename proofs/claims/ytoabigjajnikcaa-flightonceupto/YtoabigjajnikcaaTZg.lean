import Derived.Test.YtoabigjajnikcaaTZc
namespace Go.Proofs.Ytoabigjajnikcaa
open Go.RowKit Go.Maps
attribute [local go_sem] Oper.semAt_some
set_option linter.unusedVariables false
set_option linter.unusedSimpArgs false
set_option maxRecDepth 100000

section
variable {w : World} {n0 : Nat} {F G : Nat → Prop} {b bm p : Nat} {V U : Int → Value} {v : Value} {S : St}
set_option maxHeartbeats 4000000 in
theorem as_len (h : P2 w n0 F G b bm p V v U S S) (o : OpF) (ho : o.kind = 7) (n1 n2 : Nat) (da aa : Option Addr) (dc ac : Nat) : Calls Try.prog 42 #[.pointer (some ⟨b, 0, none⟩), .pointer (some ⟨p, 0, none⟩), .agg (opl o n1 n2 da dc aa ac)] w fun r w' => r = .returned (.bool true) ∧ Below w.heap.size w w' := by
  have B2 := mkb1 w (opl o n1 n2 da dc aa ac) 46
  have HB2 : Hid _ := B2
  have HP := h.later B2.bel
  obtain ⟨ao, cap, hv⟩ := owns_form9 h.r.row
  obtain ⟨n, hn⟩ : ∃ n, S.L.length = n := ⟨_, rfl⟩
  obtain ⟨m, hm⟩ : ∃ n, S.most = n := ⟨_, rfl⟩
  have c2 := HP.r.c 2
  have c0 := HP.r.c 0
  rw [hv] at c2 c0
  simp only [opl, ho, hn, hm] at HB2 HP c2 c0 ⊢
  have y2 : (w.alloc (.cells #[.int .i64 7, .int .i64 o.id, .int .u16 o.rq.fl, .int .u16 o.rq.ty, .int .u64 o.rq.ck, .int .u64 o.rq.off, .int .u64 o.rq.len, .slice da n1 dc, .slice aa n2 ac] 46)).cell? ⟨p, 2, none⟩ = some (.slice ao n cap) := c2.trans rfl
  have y0 : (w.alloc (.cells #[.int .i64 7, .int .i64 o.id, .int .u16 o.rq.fl, .int .u16 o.rq.ty, .int .u64 o.rq.ck, .int .u64 o.rq.off, .int .u64 o.rq.len, .slice da n1 dc, .slice aa n2 ac] 46)).cell? ⟨p, 0, none⟩ = some (.int .i64 m) := c0.trans rfl
  have HLn : Hid (∀ q, Calls Try.prog 11 #[.pointer (some ⟨b, 0, none⟩)] ((w.alloc (.cells #[.int .i64 7, .int .i64 o.id, .int .u16 o.rq.fl, .int .u16 o.rq.ty, .int .u64 o.rq.ck, .int .u64 o.rq.off, .int .u64 o.rq.len, .slice da n1 dc, .slice aa n2 ac] 46)).drewN q) fun e w' => e = .returned (.int .i64 n) ∧ w' = (w.alloc (.cells #[.int .i64 7, .int .i64 o.id, .int .u16 o.rq.fl, .int .u16 o.rq.ty, .int .u64 o.rq.ck, .int .u64 o.rq.off, .int .u64 o.rq.len, .slice da n1 dc, .slice aa n2 ac] 46)).drewN q) := fun q => by
    have := len_any (HP.t.drewN q)
    rwa [hn] at this
  have HFl : Hid (∀ q, Calls Try.prog 12 #[.pointer (some ⟨b, 0, none⟩)] ((w.alloc (.cells #[.int .i64 7, .int .i64 o.id, .int .u16 o.rq.fl, .int .u16 o.rq.ty, .int .u64 o.rq.ck, .int .u64 o.rq.off, .int .u64 o.rq.len, .slice da n1 dc, .slice aa n2 ac] 46)).drewN q) fun e w' => e = .returned (.bool (decide (m ≤ n))) ∧ ∃ q', w' = ((w.alloc (.cells #[.int .i64 7, .int .i64 o.id, .int .u16 o.rq.fl, .int .u16 o.rq.ty, .int .u64 o.rq.ck, .int .u64 o.rq.off, .int .u64 o.rq.len, .slice da n1 dc, .slice aa n2 ac] 46)).drewN q).drewN q') := fun q => full_any (HP.t.drewN q) n hn m hm
  have hge : (decide ((n : Int) ≥ (m : Int))) = decide (m ≤ n) := by simp
  have hge2 : (decide ((m : Int) ≤ (n : Int))) = decide (m ≤ n) := by simp
  have hn64 : n ≤ 64 := by have := h.t.ok.len; have := h.t.ok.m2; omega
  have hm64 : m ≤ 64 := by have := h.t.ok.m2; omega
  have HBe : Hid _ := HB2.out.bel
  clear h B2 ho HP hv hn hm c2 c0 HB2
  go_enter Try.func42, Try.ntmps42
  go_wp2
  go_quiet (first | (go_at_call 11; exact Calls.quiet_of_same (HLn.out _)) | (go_at_call 12; exact Calls.quiet_of (HFl.out _)) | fail)
  go_wp2
  go_ret
  exact ⟨by simp [hge2], HBe.out.trans ((below_drewN _ _).mono HBe.out.size)⟩
set_option maxHeartbeats 4000000 in
theorem as_all (h : P2 w n0 F G b bm p V v U S S) (o : OpF) (ho : o.kind = 8) (n1 n2 : Nat) (da aa : Option Addr) (dc ac : Nat) : Calls Try.prog 42 #[.pointer (some ⟨b, 0, none⟩), .pointer (some ⟨p, 0, none⟩), .agg (opl o n1 n2 da dc aa ac)] w fun r w' => r = .returned (.bool true) ∧ Below w.heap.size w w' := by
  have B2 := mkb1 w (opl o n1 n2 da dc aa ac) 46
  have HB2 : Hid _ := B2
  have HP : Hid _ := h.later B2.bel
  obtain ⟨ao, cap, hv⟩ := owns_form9 h.r.row
  obtain ⟨n, hn⟩ : ∃ n, S.L.length = n := ⟨_, rfl⟩
  have HN : Hid _ := hn
  rw [hv, hn] at HP
  simp only [opl, ho] at HB2 HP ⊢
  have hlen : S.L.length ≤ 64 := by have := h.t.ok.len; have := h.t.ok.m2; omega
  have HLn : Hid _ := hlen
  clear h B2 ho hv hn hlen
  go_enter Try.func42, Try.ntmps42
  go_wp2_with fail
  refine Calls.mono (entries_any S.L HLn.out HP.out.t.pv HP.out.t.lt (fun W hb => sorted_any (HP.out.t.later hb))) ?_
  rintro r w1 ⟨v1, rfl, ys, hys, ht, hb1⟩
  have HP1 : Hid _ := HP.out.later hb1
  have HB1 : Hid _ := HB2.out.bel.trans (hb1.mono (by rw [size1]; omega))
  have y2 : w1.cell? ⟨p, 2, none⟩ = some (.slice ao n cap) := (HP1.out.r.c 2).trans rfl
  have HS : Hid _ := sameEns (bc := cap) S.L ht hys HP1.out.r.br HLn.out HN
  clear ht hys HP hb1 HB2
  go_wp2_with fail
  refine Calls.mono HS.out ?_
  rintro r w2 ⟨rfl, hk⟩
  have HB3 : Hid (Below w.heap.size w w2) := HB1.out.trans (hk.below HB1.out.size (fun x hx e => by rw [size1] at e; omega))
  clear hk
  go_wp2
  go_ret
  exact ⟨rfl, HB3.out⟩
end
end Go.Proofs.Ytoabigjajnikcaa
