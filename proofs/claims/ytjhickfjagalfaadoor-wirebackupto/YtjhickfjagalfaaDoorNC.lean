import Derived.Test.YtjhickfjagalfaaDoorNB1
import Derived.Test.YtjhickfjagalfaaDoorNA
import Derived.Test.YtjhickfjagalfaaDoorNAq
import Derived.Test.YtjhickfjagalfaaDoorNAc
namespace Go.Proofs.YtjhickfjagalfaaDoor
open Go.RowKit
set_option linter.unusedVariables false
set_option linter.unusedSimpArgs false
set_option maxRecDepth 100000
theorem bits_u16 (a b : Nat) (ha : a < 65536) (hb : b < 65536) : bits .and .u16 (a : Int) (b : Int) = ((a &&& b : Nat) : Int) ∧ bits .or .u16 (a : Int) (b : Int) = ((a ||| b : Nat) : Int) :=
  bits_nat .u16 16 (by decide) (fun n h0 h1 => by rw [show IntKind.u16.wrap n = n % 65536 by simp [IntKind.wrap, IntKind.bits, IntKind.signed]]; omega) a b (by simpa using ha) (by simpa using hb)
theorem or32 (a : Nat) : (a ||| 32) &&& 32 ≠ 0 := fun e => by
  have h : ((a ||| 32) &&& 32).testBit 5 = true := by simp [Nat.testBit_and, Nat.testBit_or, show Nat.testBit 32 5 = true by decide]
  rw [e] at h
  simp at h
set_option maxHeartbeats 2000000 in
theorem wireBack_any (oc ok rc rk qf qt qc qo qn cf ct cc co most : Nat) (lg ext : Bool) (a1 a2 a3 a4 am : Option Addr) (p1 p2 p3 p4 pm : Nat) (d1 d2 d3 d4 m : List Nat) (w : World) (hT : Tb w)
    (h1 : BRow w a1 p1 d1) (h2 : BRow w a2 p2 d2) (h3 : BRow w a3 p3 d3) (h4 : BRow w a4 p4 d4) (hm : BRow w am pm m) (n1 : d1.length ≤ 1048576) (n2 : d2.length ≤ 1048576) (n3 : d3.length ≤ 1048576) (n4 : d4.length ≤ 1048576) (nm : m.length ≤ 1048576) (b1 : oc < 4294967296) (b2 : ok < 4294967296) (b3 : rc < 4294967296) (b4 : rk < 4294967296) (b5 : qf < 65536) (b6 : qt < 65536) (b7 : qc < 18446744073709551616) (b8 : qo < 18446744073709551616) (b9 : qn < 18446744073709551616) (b10 : cf < 65536) (b11 : ct < 65536) (b12 : cc < 18446744073709551616) (b13 : co < 18446744073709551616) (hm4 : most < 4294967296) :
    Calls Tryd.prog 8 #[.agg #[.int .u32 (oc : Int), .int .u32 (ok : Int), .bool lg, .slice a1 d1.length p1], .agg #[.int .u32 (rc : Int), .int .u32 (rk : Int), .slice a2 d2.length p2], .agg #[.int .u16 (qf : Int), .int .u16 (qt : Int), .int .u64 (qc : Int), .int .u64 (qo : Int), .int .u64 (qn : Int), .slice a3 d3.length p3], .agg #[.int .u16 (cf : Int), .int .u16 (ct : Int), .int .u64 (cc : Int), .int .u64 (co : Int), .slice a4 d4.length p4], .int .u32 (most : Int), .bool ext, .slice am m.length pm] w fun e w' => e = .returned (.bool true) ∧ Below w.heap.size w w' := by
  have hFl : qf ||| 32 < 65536 := Nat.or_lt_two_pow (n := 16) (by simpa using b5) (by decide)
  have hF : bits .or .u16 (qf : Int) 32 = ((qf ||| 32 : Nat) : Int) := (bits_u16 qf 32 b5 (by decide)).2
  have hA : bits .and .u16 ((qf ||| 32 : Nat) : Int) 32 = (((qf ||| 32) &&& 32 : Nat) : Int) := (bits_u16 (qf ||| 32) 32 hFl (by decide)).1
  have hp0 : payB (qf ||| 32) 1 false = true := by simp [payB]
  have hp1 : payB (qf ||| 32) 1 true = true := by
    unfold payB
    rw [if_pos rfl, hA]
    have := or32 qf
    simp only [bne_iff_ne, ne_eq]
    omega
  have l1 : (oL oc d1).length = 16 + d1.length := by simp only [oL, List.length_append, bigTo_length, List.length_nil]
  have l2 : (rL rc rk d2).length = 20 + d2.length := by simp only [rL, List.length_append, bigTo_length, List.length_nil]
  have l30 : (qL (qf ||| 32) 1 qc qo d3.length d3 false).length = 28 + d3.length := by simp [qL, nL, bigTo_length] <;> omega
  have l31 : (qL (qf ||| 32) 1 qc qo d3.length d3 true).length = 32 + d3.length := by simp [qL, nL, bigTo_length] <;> omega
  have l40 : (kC cf ct cc 0 d4 false).length = 20 + d4.length := by simp [kC, cL, nL, bigTo_length] <;> omega
  have l41 : (kC cf ct cc co d4 true).length = 32 + d4.length := by simp [kC, cL64, nL, bigTo_length] <;> omega
  cases ext with
  | false =>
    have hfit : fitB (qf ||| 32) 1 d3.length d3.length false = true := by unfold fitB; rw [hp0]; simp <;> omega
    exact wireBack0 oc ok rc rk qf qt qc qo qn cf ct cc co most d1.length d2.length d3.length d4.length m.length (qf ||| 32) lg a1 a2 a3 a4 am p1 p2 p3 p4 pm d1 d2 d3 d4 m w hT h1 h2 h3 h4 hm rfl rfl rfl rfl rfl n1 n2 n3 n4 nm hF hm4 _ _ _ _ rfl rfl rfl rfl
      (fun W hb => by have h := encOption oc a1 p1 d1 W b1 hb (by omega) (by omega); rw [l1] at h; exact h)
      (fun W hb => by have h := encReply rc rk a2 p2 d2 W b3 b4 hb (by omega); rw [l2] at h; exact h)
      (fun W hb => by have h := encRequest_false (qf ||| 32) 1 qc qo d3.length a3 p3 d3 W hFl (by decide) b7 b8 (by omega) hb (by omega) hfit; rw [l30] at h; exact h)
      (fun W hb => by have h := encChunkC cf ct cc 0 a4 p4 d4 false W b10 b11 b12 (by decide) hb (by omega); rw [l40] at h; exact h)
      l1 l2 l30 l40
      (fun h => backOpt_ok oc most _ d1 m rfl n1 h1.lt b1 hm4 h) (fun h => backOpt_long oc most _ d1 m rfl n1 h1.lt b1 hm4 h)
      (fun h => backRep_ok rc rk most _ d2 m rfl n2 h2.lt b3 b4 hm4 h) (fun h => backRep_long rc rk most _ d2 m rfl n2 h2.lt b3 b4 hm4 h)
      (fun h => backReq0_ok (qf ||| 32) 1 qc qo most _ d3 m rfl n3 h3.lt hFl (by decide) b7 b8 hp0 hm4 h) (fun h => backReq0_long (qf ||| 32) 1 qc qo most _ d3 m rfl n3 h3.lt hFl (by decide) b7 b8 hp0 hm4 h)
      (fun h => backChk0_ok cf ct cc 0 most _ d4 m rfl n4 h4.lt b10 b11 b12 rfl hm4 h) (fun h => backChk0_long cf ct cc 0 most _ d4 m rfl n4 h4.lt b10 b11 b12 rfl hm4 h)
  | true =>
    have hfit : fitB (qf ||| 32) 1 d3.length d3.length true = true := by unfold fitB; rw [hp1]; simp <;> omega
    exact wireBack1 oc ok rc rk qf qt qc qo qn cf ct cc co most d1.length d2.length d3.length d4.length m.length (qf ||| 32) lg a1 a2 a3 a4 am p1 p2 p3 p4 pm d1 d2 d3 d4 m w hT h1 h2 h3 h4 hm rfl rfl rfl rfl rfl n1 n2 n3 n4 nm hF hm4 _ _ _ _ rfl rfl rfl rfl
      (fun W hb => by have h := encOption oc a1 p1 d1 W b1 hb (by omega) (by omega); rw [l1] at h; exact h)
      (fun W hb => by have h := encReply rc rk a2 p2 d2 W b3 b4 hb (by omega); rw [l2] at h; exact h)
      (fun W hb => by have h := encRequest_true (qf ||| 32) 1 qc qo d3.length a3 p3 d3 W hFl (by decide) b7 b8 (by omega) hb (by omega) hfit; rw [l31] at h; exact h)
      (fun W hb => by have h := encChunkC cf ct cc co a4 p4 d4 true W b10 b11 b12 b13 hb (by omega); rw [l41] at h; exact h)
      l1 l2 l31 l41
      (fun h => backOpt_ok oc most _ d1 m rfl n1 h1.lt b1 hm4 h) (fun h => backOpt_long oc most _ d1 m rfl n1 h1.lt b1 hm4 h)
      (fun h => backRep_ok rc rk most _ d2 m rfl n2 h2.lt b3 b4 hm4 h) (fun h => backRep_long rc rk most _ d2 m rfl n2 h2.lt b3 b4 hm4 h)
      (fun h => backReq1_ok (qf ||| 32) 1 qc qo most _ d3 m rfl n3 h3.lt hFl (by decide) b7 b8 hp1 hm4 h) (fun h => backReq1_long (qf ||| 32) 1 qc qo most _ d3 m rfl n3 h3.lt hFl (by decide) b7 b8 hp1 hm4 h)
      (fun h => backChk1_ok cf ct cc co most _ d4 m rfl n4 h4.lt b10 b11 b12 b13 hm4 h) (fun h => backChk1_long cf ct cc co most _ d4 m rfl n4 h4.lt b10 b11 b12 b13 hm4 h)
end Go.Proofs.YtjhickfjagalfaaDoor
