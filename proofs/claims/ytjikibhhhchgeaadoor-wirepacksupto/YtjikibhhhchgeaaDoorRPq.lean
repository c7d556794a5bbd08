import Derived.Test.YtjikibhhhchgeaaDoorPPn
import Derived.Laws.AppendOwnNone
import Derived.Deep.RegionHeld3
namespace Go.Proofs.YtjikibhhhchgeaaDoor
open Go.RowKit
set_option linter.unusedVariables false
set_option linter.unusedSimpArgs false
set_option maxRecDepth 100000
theorem step_append_none {P : Program} {ops : Array Oper} {o : Oper} {a : Act} {w : World} {K : Act → World → Prop} {Q : Exit → Act → World → Prop} {E : Prop}
    (hg : o.guard = none) (s x : Operand) (t : TypeId) (hop : o.op = Op.call { callee := Callee.builtin Builtin.append, args := #[s, x], argTypes := #[t, t] })
    (base : Nat) (e : TypeId) (i : TypeInfo) (size : Nat) (ht : P.underlying t = some (.slice e)) (hi : P.info? e = some i)
    (v : Value) (n : Nat) (xs : List Value) (hs : a.eval s = v) (hown : w.ownsRow base e size v n xs) (hx : a.eval x = .slice none 0 0) (hK : K (a.put o.dst v) w) :
    if Region.wanted o (yielded ops a.tmps) = true then Oper.wp P o a w K Q else E := by
  have hw : Region.wanted o (yielded ops a.tmps) = true := by simp [Region.wanted, hg]
  rw [if_pos hw]
  have hrun := run_append_owned_none (P := P) (w := w) base t o.type e i size ht hi v n xs hown
  unfold Oper.wp
  simp [execOp, hop, resolve, invoke, builtin, hs, hx, hrun, Result.andThen]
  exact hK
set_option maxHeartbeats 40000000 in
theorem rServer_none (s : ByteArray) (w : World) (ht : tx s = true) :
    Calls Tryd.prog 42 #[.agg #[.string s, .slice none 0 0]] w fun e w' => Pk w (seL s []) 0 e w' := by
  obtain ⟨i0, hi, hz0, hz1, hz2⟩ := info_parts Tryd.info5
  have hws : IntKind.u64.wrap ((s.size : Nat) : Int) = ((s.size : Nat) : Int) := by have := (tx_true ht).1; rw [IntKind.wrap_u64]; omega
  have HI : Hid (∀ W, Calls Tryd.prog 96 #[.string s] W fun e w' => e = .returned (.bool true) ∧ Below W.heap.size W w') := fun W => by have h := rText_any s W (by first | omega | exact hs | (have := (tx_true ht).1; omega)); rw [ht] at h; exact h
  obtain ⟨hs4, _⟩ := tx_true ht
  clear ht
  have hx := mkb1 w #[.string s, .slice none 0 0] 37
  go_enter Tryd.func42, Tryd.ntmps42
  go_wp2_with fail
  generalize w.alloc (Obj.cells #[.string s, .slice none 0 0] 37) = W0 at *
  refine (HI.out _).mono ?_
  rintro e W1 ⟨rfl, hb⟩
  have HY : Hid (Bx1 w W1 #[.string s, .slice none 0 0] 37) := hx.later hb
  clear hx hb HI
  have k0 := blk_at HY.out.a 0
  have k1 := blk_at HY.out.a 1
  simp at k0 k1
  have HS2 : Hid (∀ W', Below W1.heap.size W1 W' → W'.cell? ⟨w.heap.size, 0, none⟩ = some (.string s) ∧ W'.cell? ⟨w.heap.size, 1, none⟩ = some (.slice none 0 0)) := fun W' hb => ⟨cell_later hb k0, cell_later hb k1⟩
  have HBw : Hid (Below w.heap.size w W1) := HY.out.bel
  obtain ⟨Wc, cp, hcv, hbc, hrc⟩ := conv_any s (W1.alloc (.cells #[.int .u64 (s.size : Int), .int .i64 4] TFd)).drew hs4
  have hz1' : (W1.alloc (.cells #[.int .u64 (s.size : Int), .int .i64 4] TFd)).drew.heap.size = W1.heap.size + 1 := size1 _ _
  rw [hz1'] at hcv hrc
  have HC : Hid (Below (W1.alloc (.cells #[.int .u64 (s.size : Int), .int .i64 4] TFd)).heap.size (W1.alloc (.cells #[.int .u64 (s.size : Int), .int .i64 4] TFd)) Wc ∧ BRow Wc (some ⟨W1.heap.size + 1, 0, none⟩) cp (sbytes s)) := ⟨⟨hbc.os, hbc.tape, hbc.output, hbc.size, hbc.block⟩, hrc⟩
  clear hbc hrc hz1'
  obtain ⟨Wd, cp2, hcv2, hbd, hrd⟩ := conv_any s W1.drew hs4
  have HD : Hid (Below W1.heap.size W1 Wd ∧ BRow Wd (some ⟨W1.heap.size, 0, none⟩) cp2 (sbytes s)) := ⟨⟨hbd.os, hbd.tape, hbd.output, hbd.size, hbd.block⟩, hrd⟩
  have hcv3 : (convert 9 25 (.string s)).run Tryd.prog W1.drew = .ok (.slice (some ⟨W1.heap.size, 0, none⟩) s.size cp2) Wd := hcv2
  clear hbd hrd hcv2
  have HQ1 : Hid (Below W1.heap.size W1 Wc) := by
    have h1 := below1 W1 (.cells #[.int .u64 (s.size : Int), .int .i64 4] TFd)
    exact h1.trans (HC.out.1.mono h1.size)
  have HQ3 : Hid (Below W1.heap.size W1 (Wd.alloc (.cells #[.int .u64 (s.size : Int), .int .i64 4] TFd))) := HD.out.1.alloc HD.out.1.size _
  have xc0 := (HS2.out _ HQ1.out).1
  have xc1 := (HS2.out _ HQ1.out).2
  have xd0 := (HS2.out _ HD.out.1).1
  have xd1 := (HS2.out _ HD.out.1).2
  have xe0 := (HS2.out _ HQ3.out).1
  have xe1 := (HS2.out _ HQ3.out).2
  have xf0 := (HS2.out _ (below1 W1 (.cells #[.int .u64 (s.size : Int), .int .i64 4] TFd))).1
  have xf1 := (HS2.out _ (below1 W1 (.cells #[.int .u64 (s.size : Int), .int .i64 4] TFd))).2
  have HL1 : Hid (Calls Tryd.prog 88 #[.slice (some ⟨W1.heap.size, 0, none⟩) 1 1, .slice (some ⟨W1.heap.size + 1, 0, none⟩) s.size cp] Wc fun e w' => ∃ ao' cap' m, e = .returned (.slice ao' m cap') ∧ (bigTo s.size 4 4 ++ sbytes s).length = m ∧ Row w w' ao' cap' (bigTo s.size 4 4 ++ sbytes s) ∧ Below W1.heap.size W1 w') := layR (w := w) [(s.size, 4)] 1 #[.int .u64 (s.size : Int), .int .i64 4] rfl HBw.out rfl (by simp; omega) (by decide) HC.out.1 _ cp s.size (sbytes s) HC.out.2 (sbytes_length s) (by omega) (bigTo s.size 4 4 ++ sbytes s) (by simp [layF])
  have HL2 : Hid (Calls Tryd.prog 88 #[.slice (some ⟨Wd.heap.size, 0, none⟩) 1 1, .slice (some ⟨W1.heap.size, 0, none⟩) s.size cp2] (Wd.alloc (.cells #[.int .u64 (s.size : Int), .int .i64 4] TFd)) fun e w' => ∃ ao' cap' m, e = .returned (.slice ao' m cap') ∧ (bigTo s.size 4 4 ++ sbytes s).length = m ∧ Row w w' ao' cap' (bigTo s.size 4 4 ++ sbytes s) ∧ Below W1.heap.size W1 w') := (layR (w := w) [(s.size, 4)] 1 #[.int .u64 (s.size : Int), .int .i64 4] rfl (HBw.out.trans (HD.out.1.mono HBw.out.size)) rfl (by simp; omega) (by decide) (Below.refl _ _) _ cp2 s.size (sbytes s) (HD.out.2.later (below1 Wd _)) (sbytes_length s) (by omega) (bigTo s.size 4 4 ++ sbytes s) (by simp [layF])).mono fun e w' ⟨a2, c2, m2, h1, h2, h3, h4⟩ => ⟨a2, c2, m2, h1, h2, h3, HD.out.1.trans (h4.mono HD.out.1.size)⟩
  go_wp2
  go_region_law (first | (go_simp; go_at_call 88; (with_reducible refine HL1.out.mono ?_); rintro e Wz ⟨az, cz, mz, rfl, hmz, hrz, hbz⟩; have hmz2 : mz ≤ 5000 := (by rw [← hmz]; simp [bigTo_length, sbytes_length]; omega); have HR : Hid (Rn w Wz az cz mz (bigTo s.size 4 4 ++ sbytes s)) := hrz.rn hmz; have HQ2 : Hid (Below W1.heap.size W1 Wz) := hbz; have yz0 := (HS2.out _ HQ2.out).1; have yz1 := (HS2.out _ HQ2.out).2; clear hrz hmz hbz; dsimp only) | (go_simp; go_at_call 88; (with_reducible refine HL2.out.mono ?_); rintro e Wz ⟨az, cz, mz, rfl, hmz, hrz, hbz⟩; have hmz2 : mz ≤ 5000 := (by rw [← hmz]; simp [bigTo_length, sbytes_length]; omega); have HR : Hid (Rn w Wz az cz mz (bigTo s.size 4 4 ++ sbytes s)) := hrz.rn hmz; have HQ2 : Hid (Below W1.heap.size W1 Wz) := hbz; have yz0 := (HS2.out _ HQ2.out).1; have yz1 := (HS2.out _ HQ2.out).2; clear hrz hmz hbz; dsimp only) | (refine step_append_none rfl (.tmp 17) (.tmp 19) 25 rfl w.heap.size 5 i0 1 Tryd.underlying25 hi (.slice az mz cz) mz ((bigTo s.size 4 4 ++ sbytes s).map bv) (by first | (simp [Act.eval]; done) | simp [Act.eval, Act.put]) HR.out.own (by first | (simp [Act.eval]; done) | simp [Act.eval, Act.put]) ?_))
  all_goals
    go_wp2
    go_ret2
    have e9 : bigTo s.size 4 4 ++ sbytes s = seL s [] := by simp [seL]
    have h9 := HR.out
    rw [e9] at h9
    exact ⟨_, _, _, rfl, h9.len, h9.row⟩
end Go.Proofs.YtjikibhhhchgeaaDoor
