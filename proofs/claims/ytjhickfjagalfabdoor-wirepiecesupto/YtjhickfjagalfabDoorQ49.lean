import Derived.Test.YtjhickfjagalfabDoorQ48
import Derived.Test.YtjhickfjagalfabDoorQ17
namespace Go.Proofs.YtjhickfjagalfabDoor
open Go.RowKit
set_option linter.unusedVariables false
set_option linter.unusedSimpArgs false
set_option maxRecDepth 100000
theorem CRow.takeC {w : World} {ao : Option Addr} {cap : Nat} {l : List Nat} (h : CRow w ao cap l) (k : Nat) : CRow w ao cap (l.take k) :=
  ⟨h.row.take k cap (fun e => (h.row.nil e).2), by have := h.cap1; rw [List.length_take]; omega, h.cap2⟩
/-- told, by the number of the bytes -/
theorem told_n (k n : Nat) (hk : k < 11) (ao : Option Addr) (cap : Nat) (l : List Nat) (hl : l.length = n) (most : Nat) (w : World) (h : CRow w ao cap l) (hn : n ≤ 1048576) (hm4 : most < 4294967296) :
    Calls Tryd.prog 8 #[.int .i64 (k : Int), .slice ao n cap, .int .u32 (most : Int)] w fun e w' => ∃ (N E : Nat) (m : List Nat) (ao3 : Option Addr) (cap3 : Nat), e = .returned (.agg #[.int .i64 (N : Int), .int .i64 (E : Int), .slice ao3 m.length cap3]) ∧ toD k most l = (N, E, m) ∧ Row w w' ao3 cap3 m := by
  subst hl
  exact told_any k hk ao cap l most w h hn hm4
/-- what is known of the whole and of a beginning -/
structure Pw (k most cut : Nat) (l : List Nat) (N E : Nat) (m : List Nat) (N' E' : Nat) (m' : List Nat) : Prop where
  er : erOk E
  er' : erOk E'
  pc : Pc cut (N', E') (N, E)
  sg : E = 10 → l.length < N
  sg' : E' = 10 → cut < N'
  eq : E = 0 → N ≤ cut → m' = m
  ln : E = 0 → m.length ≤ l.length
theorem pw_of {k most cut : Nat} {l : List Nat} {N E : Nat} {m : List Nat} {N' E' : Nat} {m' : List Nat} (hk : k < 11) (hlt : ∀ x ∈ l, x < 256) (hc : cut ≤ l.length) (h1 : toD k most l = (N, E, m)) (h2 : toD k most (l.take cut) = (N', E', m')) : Pw k most cut l N E m N' E' m' := by
  have a1 := again_any hlt k most hk
  have a2 := again_any (l := l.take cut) (fun x hx => hlt x (List.mem_of_mem_take hx)) k most hk
  have hp := piece_any k most l cut hk hc
  have s1 := short_gt k most l hk
  have s2 := short_gt k most (l.take cut) hk
  have hl : (l.take cut).length = cut := by rw [List.length_take]; omega
  unfold neD at hp
  rw [h1] at a1 s1
  rw [h2] at a2 s2
  rw [h1, h2] at hp
  rw [hl] at s2
  refine ⟨a1.1, a2.1, hp, s1, s2, fun e0 hn => ?_, fun e0 => ?_⟩
  · have hq := hp.ok1 e0 hn
    simp only [Prod.mk.injEq] at hq
    obtain ⟨rfl, rfl⟩ := hq
    obtain ⟨_, _, e1⟩ := a1.2 e0
    obtain ⟨_, _, e2⟩ := a2.2 e0
    simp only at e1 e2
    rw [e1, e2, List.take_take, Nat.min_eq_left hn]
  · obtain ⟨_, _, e1⟩ := a1.2 e0
    simp only at e1
    rw [e1, List.length_take]; omega
theorem twin_e (ao : Option Addr) (cap n : Nat) (l : List Nat) (w : World) (h : BRow w ao cap l) (hl : l.length = n) (hn : n ≤ 1048576) :
    Calls Tryd.prog 9 #[.slice ao n cap] w fun e w' => ∃ g, e = .returned (.slice (some ⟨g, 0, none⟩) n (n + 4)) ∧ CRow w' (some ⟨g, 0, none⟩) (n + 4) l ∧ Below w.heap.size w w' := by
  refine Calls.mono (twin_any ao cap n l w h hl (by omega)) ?_
  rintro e w' ⟨rfl, hblk, hb⟩
  refine ⟨_, rfl, ?_, hb⟩
  have := twin_crow hblk h.lt (by rw [hl]; exact hn)
  rw [hl] at this
  exact this
end Go.Proofs.YtjhickfjagalfabDoor
