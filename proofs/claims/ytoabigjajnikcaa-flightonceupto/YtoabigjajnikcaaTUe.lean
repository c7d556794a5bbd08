import Derived.Test.YtoabigjajnikcaaTK
namespace Go.Proofs.Ytoabigjajnikcaa
open Go.RowKit Go.Maps
attribute [local go_sem] Oper.semAt_some
set_option linter.unusedVariables false
set_option linter.unusedSimpArgs false
set_option maxRecDepth 100000

set_option maxHeartbeats 2000000 in
theorem sameReq (q : Rq) (n : Nat) (da db : Option Addr) (dc dd : Nat) (w : World) (h1 : BRow w da dc q.data) (h2 : BRow w db dd q.data) (HN : Hid (q.data.length = n)) : Calls Try.prog 25 #[.agg #[.int .u16 q.fl, .int .u16 q.ty, .int .u64 q.ck, .int .u64 q.off, .int .u64 q.len, .slice da n dc], .agg #[.int .u16 q.fl, .int .u16 q.ty, .int .u64 q.ck, .int .u64 q.off, .int .u64 q.len, .slice db n dd]] w fun r w' => r = .returned (.bool true) ∧ Below w.heap.size w w' := by
  have B0 := mkb2 w #[.int .u16 q.fl, .int .u16 q.ty, .int .u64 q.ck, .int .u64 q.off, .int .u64 q.len, .slice da n dc] #[.int .u16 q.fl, .int .u16 q.ty, .int .u64 q.ck, .int .u64 q.off, .int .u64 q.len, .slice db n dd] 44 44
  have HB0 : Hid _ := B0.bel
  have HS : Hid _ := same_any da db dc dd q.data q.data _ (h1.later B0.bel) (h2.later B0.bel)
  rw [HN.out] at HS
  simp only [decide_true] at HS
  clear B0 h1 h2
  go_enter Try.func25, Try.ntmps25
  go_wp2_with fail
  refine Calls.mono HS.out ?_
  rintro r w1 ⟨rfl, k, hw⟩
  have HB1 : Hid (Below w.heap.size w w1) := by show Below _ _ _; rw [hw]; exact HB0.out.trans ((below_drewN _ k).mono HB0.out.size)
  clear hw
  go_wp2
  go_ret
  exact ⟨rfl, HB1.out⟩
set_option maxHeartbeats 4000000 in
theorem sameEn (e : En) (w : World) (F F' : Nat → Prop) (v v' : Value) (h1 : PV w F v e) (h2 : PV w F' v' e) : Calls Try.prog 46 #[v, v'] w fun r w' => r = .returned (.bool true) ∧ Below w.heap.size w w' := by
  obtain ⟨da, dc, aa, ac, rfl, r1, r2⟩ := h1.ex
  obtain ⟨db, dd, ab, ad, rfl, s1, s2⟩ := h2.ex
  obtain ⟨n1, hn1⟩ : ∃ n, e.rq.data.length = n := ⟨_, rfl⟩
  obtain ⟨n2, hn2⟩ : ∃ n, e.an.length = n := ⟨_, rfl⟩
  have HN2 : Hid _ := hn2
  have B0 := mkb2 w #[.int .i64 e.id, .int .u16 e.rq.fl, .int .u16 e.rq.ty, .int .u64 e.rq.ck, .int .u64 e.rq.off, .int .u64 e.rq.len, .slice da n1 dc, .bool e.rd, .slice aa n2 ac] #[.int .i64 e.id, .int .u16 e.rq.fl, .int .u16 e.rq.ty, .int .u64 e.rq.ck, .int .u64 e.rq.off, .int .u64 e.rq.len, .slice db n1 dd, .bool e.rd, .slice ab n2 ad] TEn TEn
  have HR : Hid _ := sameReq e.rq n1 da db dc dd _ (r1.row.later B0.bel) (s1.row.later B0.bel) hn1
  have HR2 : Hid (BRow w aa ac e.an ∧ BRow w ab ad e.an) := ⟨r2.row, s2.row⟩
  have HB0 : Hid _ := B0
  simp only [ecl, hn1, hn2]
  clear B0 h1 h2 r1 r2 s1 s2 hn1 hn2
  go_enter Try.func46, Try.ntmps46
  go_wp2_with fail
  refine Calls.mono HR.out ?_
  rintro r w1 ⟨rfl, hb1⟩
  have B1 := HB0.out.later hb1
  have a0 : w1.cell? ⟨w.heap.size, 0, none⟩ = some (.int .i64 e.id) := (blk_at B1.a 0).trans rfl
  have a7 : w1.cell? ⟨w.heap.size, 7, none⟩ = some (.bool e.rd) := (blk_at B1.a 7).trans rfl
  have a8 : w1.cell? ⟨w.heap.size, 8, none⟩ = some (.slice aa n2 ac) := (blk_at B1.a 8).trans rfl
  have b0 : w1.cell? ⟨w.heap.size + 1, 0, none⟩ = some (.int .i64 e.id) := (blk_at B1.b 0).trans rfl
  have b7 : w1.cell? ⟨w.heap.size + 1, 7, none⟩ = some (.bool e.rd) := (blk_at B1.b 7).trans rfl
  have b8 : w1.cell? ⟨w.heap.size + 1, 8, none⟩ = some (.slice ab n2 ad) := (blk_at B1.b 8).trans rfl
  have HS : Hid _ := same_any aa ab ac ad e.an e.an w1 (HR2.out.1.later B1.bel) (HR2.out.2.later B1.bel)
  rw [HN2.out] at HS
  simp only [decide_true] at HS
  have HB1 : Hid _ := B1.bel
  clear B1 hb1 HR HB0 HR2
  go_wp2_with fail
  refine Calls.mono HS.out ?_
  rintro r w2 ⟨rfl, k, hw⟩
  have HB2 : Hid (Below w.heap.size w w2) := by show Below _ _ _; rw [hw]; exact HB1.out.trans ((below_drewN _ k).mono HB1.out.size)
  clear hw
  go_wp2
  go_ret
  exact ⟨rfl, HB2.out⟩
end Go.Proofs.Ytoabigjajnikcaa
