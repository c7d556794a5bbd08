import Derived.Test.YtodinademhibjaaDoorRuM
namespace Go.Proofs.YtodinademhibjaaDoor
open Go.RowKit
set_option linter.unusedVariables false
set_option linter.unusedSimpArgs false
set_option maxRecDepth 100000

/-- the three boxes of heads, and the table -/
structure S3 (w wc : World) : Prop where
  bel : Below w.heap.size w wc
  e : Bx wc w.heap.size #[.string ⟨#[97]⟩, .string ByteArray.empty, .int .i64 8, .bool false, .bool false, .bool false, .bool false, .int .u32 512, .int .u32 512]
  l : Bx wc (w.heap.size + 1) #[.int .u32 1024, .int .u32 64, .int .i64 1]
  s : Bx wc (w.heap.size + 1 + 1) #[.int .i64 0, .bool false, .bool false, .slice none 0 0]
  t : Tb wc
theorem S3.later {w wc wd : World} (h : S3 w wc) (hb : Below wc.heap.size wc wd) : S3 w wd :=
  ⟨bcons h.bel hb, h.e.later hb, h.l.later hb, h.s.later hb, h.t.later hb⟩
theorem S3.start (w : World) (hT : Tb w) (t1 t2 t3 : TypeId) (f1 f2 f3 : Nat × Nat) : S3 w (((w.alloc (.cells #[.string ⟨#[97]⟩, .string ByteArray.empty, .int .i64 8, .bool false, .bool false, .bool false, .bool false, .int .u32 512, .int .u32 512] t1 f1)).alloc (.cells #[.int .u32 1024, .int .u32 64, .int .i64 1] t2 f2)).alloc (.cells #[.int .i64 0, .bool false, .bool false, .slice none 0 0] t3 f3)) := by
  refine ⟨b3 _ _ _ _, ((Bx.new w _ _ _).alloc _).alloc _, ?_, ?_, ((hT.alloc _).alloc _).alloc _⟩
  · have := (Bx.new (w.alloc (.cells #[.string ⟨#[97]⟩, .string ByteArray.empty, .int .i64 8, .bool false, .bool false, .bool false, .bool false, .int .u32 512, .int .u32 512] t1 f1)) #[.int .u32 1024, .int .u32 64, .int .i64 1] t2 f2).alloc (.cells #[.int .i64 0, .bool false, .bool false, .slice none 0 0] t3 f3)
    rwa [World.size_alloc] at this
  · have := Bx.new ((w.alloc (.cells #[.string ⟨#[97]⟩, .string ByteArray.empty, .int .i64 8, .bool false, .bool false, .bool false, .bool false, .int .u32 512, .int .u32 512] t1 f1)).alloc (.cells #[.int .u32 1024, .int .u32 64, .int .i64 1] t2 f2)) #[.int .i64 0, .bool false, .bool false, .slice none 0 0] t3 f3
    rwa [World.size_alloc, World.size_alloc] at this
set_option maxHeartbeats 4000000 in
theorem heads_any (w : World) (hT : Tb w) : Calls Tryd.prog 16 #[] w fun e w' => e = .returned (.bool true) ∧ Below w.heap.size w w' := by
  have HC : Hid (∀ (fl ty of ln : Nat) (hf : fl < 65536) (ht : ty < 65536) (hof : of < 18446744073709551616) (hln : ln < 18446744073709551616) (r : Nat) (hr : chk 8 false 512 false false 0 1024 fl ty of ln = r) (W : World), Tb W → Calls Tryd.prog 15 #[expV ⟨#[97]⟩ ByteArray.empty 8 false false false false 512 512, sesV 0 false false none 0 0, limV 1024 64 1, reqV fl ty 0 of ln none 0 0] W fun e w' => e = .returned (.int .u32 (r : Int)) ∧ Below W.heap.size W w') :=
    fun fl ty of ln hf ht hof hln r hr W hW => by
      have := check_any ⟨#[97]⟩ ByteArray.empty 8 false false false false 512 512 0 false false none 0 0 1024 64 1 fl ty 0 of ln none 0 0 (by decide) (by decide) (by decide) hf ht hof hln W hW
      rwa [hr] at this
  have HT : Hid (Tb w) := hT
  clear hT
  go_enter Tryd.func16, Tryd.ntmps16
  go_wp2_with fail
  refine (HC.out 0 0 0 1024 (by decide) (by decide) (by decide) (by decide) 0 (by decide) _ (((HT.out.alloc _).alloc _).alloc _)).mono ?_
  rintro e w1 ⟨rfl, hb⟩
  have HS1 : Hid (S3 w w1) := (S3.start w HT.out _ _ _ _ _ _).later hb
  clear hb
  have e0 : w1.cell? ⟨w.heap.size, 0, none⟩ = some (.string ⟨#[97]⟩) := HS1.out.e 0 (by show 0 < 9; decide)
  have e1 : w1.cell? ⟨w.heap.size, 1, none⟩ = some (.string ByteArray.empty) := HS1.out.e 1 (by show 1 < 9; decide)
  have e2 : w1.cell? ⟨w.heap.size, 2, none⟩ = some (.int .i64 8) := HS1.out.e 2 (by show 2 < 9; decide)
  have e3 : w1.cell? ⟨w.heap.size, 3, none⟩ = some (.bool false) := HS1.out.e 3 (by show 3 < 9; decide)
  have e4 : w1.cell? ⟨w.heap.size, 4, none⟩ = some (.bool false) := HS1.out.e 4 (by show 4 < 9; decide)
  have e5 : w1.cell? ⟨w.heap.size, 5, none⟩ = some (.bool false) := HS1.out.e 5 (by show 5 < 9; decide)
  have e6 : w1.cell? ⟨w.heap.size, 6, none⟩ = some (.bool false) := HS1.out.e 6 (by show 6 < 9; decide)
  have e7 : w1.cell? ⟨w.heap.size, 7, none⟩ = some (.int .u32 512) := HS1.out.e 7 (by show 7 < 9; decide)
  have e8 : w1.cell? ⟨w.heap.size, 8, none⟩ = some (.int .u32 512) := HS1.out.e 8 (by show 8 < 9; decide)
  have l0 : w1.cell? ⟨w.heap.size + 1, 0, none⟩ = some (.int .u32 1024) := HS1.out.l 0 (by show 0 < 3; decide)
  have l1 : w1.cell? ⟨w.heap.size + 1, 1, none⟩ = some (.int .u32 64) := HS1.out.l 1 (by show 1 < 3; decide)
  have l2 : w1.cell? ⟨w.heap.size + 1, 2, none⟩ = some (.int .i64 1) := HS1.out.l 2 (by show 2 < 3; decide)
  have s0 : w1.cell? ⟨w.heap.size + 1 + 1, 0, none⟩ = some (.int .i64 0) := HS1.out.s 0 (by show 0 < 4; decide)
  have s1 : w1.cell? ⟨w.heap.size + 1 + 1, 1, none⟩ = some (.bool false) := HS1.out.s 1 (by show 1 < 4; decide)
  have s2 : w1.cell? ⟨w.heap.size + 1 + 1, 2, none⟩ = some (.bool false) := HS1.out.s 2 (by show 2 < 4; decide)
  have s3 : w1.cell? ⟨w.heap.size + 1 + 1, 3, none⟩ = some (.slice none 0 0) := HS1.out.s 3 (by show 3 < 4; decide)
  go_wp2_with fail
  refine (HC.out 0 1 3584 1024 (by decide) (by decide) (by decide) (by decide) 28 (by decide) _ HS1.out.t).mono ?_
  rintro e w2 ⟨rfl, hb⟩
  have HS2 : Hid (S3 w w2) := HS1.out.later hb
  clear hb HS1 e0 e1 e2 e3 e4 e5 e6 e7 e8 l0 l1 l2 s0 s1 s2 s3
  have e0 : w2.cell? ⟨w.heap.size, 0, none⟩ = some (.string ⟨#[97]⟩) := HS2.out.e 0 (by show 0 < 9; decide)
  have e1 : w2.cell? ⟨w.heap.size, 1, none⟩ = some (.string ByteArray.empty) := HS2.out.e 1 (by show 1 < 9; decide)
  have e2 : w2.cell? ⟨w.heap.size, 2, none⟩ = some (.int .i64 8) := HS2.out.e 2 (by show 2 < 9; decide)
  have e3 : w2.cell? ⟨w.heap.size, 3, none⟩ = some (.bool false) := HS2.out.e 3 (by show 3 < 9; decide)
  have e4 : w2.cell? ⟨w.heap.size, 4, none⟩ = some (.bool false) := HS2.out.e 4 (by show 4 < 9; decide)
  have e5 : w2.cell? ⟨w.heap.size, 5, none⟩ = some (.bool false) := HS2.out.e 5 (by show 5 < 9; decide)
  have e6 : w2.cell? ⟨w.heap.size, 6, none⟩ = some (.bool false) := HS2.out.e 6 (by show 6 < 9; decide)
  have e7 : w2.cell? ⟨w.heap.size, 7, none⟩ = some (.int .u32 512) := HS2.out.e 7 (by show 7 < 9; decide)
  have e8 : w2.cell? ⟨w.heap.size, 8, none⟩ = some (.int .u32 512) := HS2.out.e 8 (by show 8 < 9; decide)
  have l0 : w2.cell? ⟨w.heap.size + 1, 0, none⟩ = some (.int .u32 1024) := HS2.out.l 0 (by show 0 < 3; decide)
  have l1 : w2.cell? ⟨w.heap.size + 1, 1, none⟩ = some (.int .u32 64) := HS2.out.l 1 (by show 1 < 3; decide)
  have l2 : w2.cell? ⟨w.heap.size + 1, 2, none⟩ = some (.int .i64 1) := HS2.out.l 2 (by show 2 < 3; decide)
  have s0 : w2.cell? ⟨w.heap.size + 1 + 1, 0, none⟩ = some (.int .i64 0) := HS2.out.s 0 (by show 0 < 4; decide)
  have s1 : w2.cell? ⟨w.heap.size + 1 + 1, 1, none⟩ = some (.bool false) := HS2.out.s 1 (by show 1 < 4; decide)
  have s2 : w2.cell? ⟨w.heap.size + 1 + 1, 2, none⟩ = some (.bool false) := HS2.out.s 2 (by show 2 < 4; decide)
  have s3 : w2.cell? ⟨w.heap.size + 1 + 1, 3, none⟩ = some (.slice none 0 0) := HS2.out.s 3 (by show 3 < 4; decide)
  go_wp2_with fail
  refine (HC.out 0 4 3584 1024 (by decide) (by decide) (by decide) (by decide) 22 (by decide) _ HS2.out.t).mono ?_
  rintro e w3 ⟨rfl, hb⟩
  have HS3 : Hid (S3 w w3) := HS2.out.later hb
  clear hb HS2 e0 e1 e2 e3 e4 e5 e6 e7 e8 l0 l1 l2 s0 s1 s2 s3
  have e0 : w3.cell? ⟨w.heap.size, 0, none⟩ = some (.string ⟨#[97]⟩) := HS3.out.e 0 (by show 0 < 9; decide)
  have e1 : w3.cell? ⟨w.heap.size, 1, none⟩ = some (.string ByteArray.empty) := HS3.out.e 1 (by show 1 < 9; decide)
  have e2 : w3.cell? ⟨w.heap.size, 2, none⟩ = some (.int .i64 8) := HS3.out.e 2 (by show 2 < 9; decide)
  have e3 : w3.cell? ⟨w.heap.size, 3, none⟩ = some (.bool false) := HS3.out.e 3 (by show 3 < 9; decide)
  have e4 : w3.cell? ⟨w.heap.size, 4, none⟩ = some (.bool false) := HS3.out.e 4 (by show 4 < 9; decide)
  have e5 : w3.cell? ⟨w.heap.size, 5, none⟩ = some (.bool false) := HS3.out.e 5 (by show 5 < 9; decide)
  have e6 : w3.cell? ⟨w.heap.size, 6, none⟩ = some (.bool false) := HS3.out.e 6 (by show 6 < 9; decide)
  have e7 : w3.cell? ⟨w.heap.size, 7, none⟩ = some (.int .u32 512) := HS3.out.e 7 (by show 7 < 9; decide)
  have e8 : w3.cell? ⟨w.heap.size, 8, none⟩ = some (.int .u32 512) := HS3.out.e 8 (by show 8 < 9; decide)
  have l0 : w3.cell? ⟨w.heap.size + 1, 0, none⟩ = some (.int .u32 1024) := HS3.out.l 0 (by show 0 < 3; decide)
  have l1 : w3.cell? ⟨w.heap.size + 1, 1, none⟩ = some (.int .u32 64) := HS3.out.l 1 (by show 1 < 3; decide)
  have l2 : w3.cell? ⟨w.heap.size + 1, 2, none⟩ = some (.int .i64 1) := HS3.out.l 2 (by show 2 < 3; decide)
  have s0 : w3.cell? ⟨w.heap.size + 1 + 1, 0, none⟩ = some (.int .i64 0) := HS3.out.s 0 (by show 0 < 4; decide)
  have s1 : w3.cell? ⟨w.heap.size + 1 + 1, 1, none⟩ = some (.bool false) := HS3.out.s 1 (by show 1 < 4; decide)
  have s2 : w3.cell? ⟨w.heap.size + 1 + 1, 2, none⟩ = some (.bool false) := HS3.out.s 2 (by show 2 < 4; decide)
  have s3 : w3.cell? ⟨w.heap.size + 1 + 1, 3, none⟩ = some (.slice none 0 0) := HS3.out.s 3 (by show 3 < 4; decide)
  go_wp2_with fail
  refine (HC.out 0 8 0 0 (by decide) (by decide) (by decide) (by decide) 22 (by decide) _ HS3.out.t).mono ?_
  rintro e w4 ⟨rfl, hb⟩
  have HS4 : Hid (S3 w w4) := HS3.out.later hb
  clear hb HS3 e0 e1 e2 e3 e4 e5 e6 e7 e8 l0 l1 l2 s0 s1 s2 s3
  go_wp2
  go_ret
  exact ⟨rfl, HS4.out.bel⟩
end Go.Proofs.YtodinademhibjaaDoor
