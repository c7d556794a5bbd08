import Derived.Test.YtefgdhoapmikhaaDoorJD
import Derived.Test.YtefgdhoapmikhaaDoorRpV
import Derived.Test.YtefgdhoapmikhaaDoorRpPe
import Derived.Test.YtefgdhoapmikhaaDoorJK
import Derived.Laws.BytesString
namespace Go.Proofs.YtefgdhoapmikhaaDoor
open Go.RowKit
set_option linter.unusedVariables false
set_option linter.unusedSimpArgs false
set_option maxRecDepth 100000
/-- a body while it is read, nothing wrong so far -/
structure Bd (w W : World) (c r : Nat) (ao : Option Addr) (cap : Nat) (l : List Nat) (at_ : Nat) : Prop where
  bel : Below w.heap.size w W
  bd : W.heap[c]? = some (.cells #[.pointer (some ⟨r, 0, none⟩), .int .i64 0] 159 (0, 0))
  hc : w.heap.size ≤ c
  rd : ROk W w.heap.size r ao cap l at_
theorem Bd.ne {w W : World} {c r : Nat} {ao : Option Addr} {cap : Nat} {l : List Nat} {at_ : Nat} (h : Bd w W c r ao cap l at_) : c ≠ r := by
  rintro rfl
  have h1 := h.bd
  rw [h.rd.blk] at h1
  simp at h1
theorem Bd.moved {w W W' : World} {c r : Nat} {ao : Option Addr} {cap : Nat} {l : List Nat} {at_ k : Nat} (h : Bd w W c r ao cap l at_) (hp : RPost W W' w.heap.size r ao cap l k) : Bd w W' c r ao cap l k :=
  ⟨h.bel.trans (hp.kept.below h.bel.size (fun g hg e => by have := h.rd.hr; omega)), by rw [hp.kept.block c (block_lt h.bd) h.ne]; exact h.bd, h.hc, hp.ok⟩
theorem Bd.later {w W W' : World} {c r : Nat} {ao : Option Addr} {cap : Nat} {l : List Nat} {at_ : Nat} (h : Bd w W c r ao cap l at_) (k : Below W.heap.size W W') : Bd w W' c r ao cap l at_ :=
  ⟨h.bel.trans (k.mono h.bel.size), box_later h.bd k, h.hc, ⟨box_later h.rd.blk k, owns_same h.rd.own (fun g hg => k.block g (owns_lt h.rd.own g hg).1), h.rd.lt, h.rd.len, h.rd.le, h.rd.hr⟩⟩
theorem Bd.c0 {w W : World} {c r : Nat} {ao : Option Addr} {cap : Nat} {l : List Nat} {at_ : Nat} (h : Bd w W c r ao cap l at_) : W.cell? ⟨c, 0, none⟩ = some (.pointer (some ⟨r, 0, none⟩)) := by rw [blk_at h.bd]; rfl
theorem Bd.c1 {w W : World} {c r : Nat} {ao : Option Addr} {cap : Nat} {l : List Nat} {at_ : Nat} (h : Bd w W c r ao cap l at_) : W.cell? ⟨c, 1, none⟩ = some (.int .i64 0) := by rw [blk_at h.bd]; rfl
set_option maxHeartbeats 1000000 in
theorem need_true (c : Nat) (w : World) : Calls Tryd.prog 53 #[.pointer (some ⟨c, 0, none⟩), .bool true] w fun e w' => e = .returned (.tuple #[]) ∧ w' = w := by
  go_enter Tryd.func53, Tryd.ntmps53
  go_wp2
  go_end0
  exact ⟨rfl, rfl⟩
set_option maxHeartbeats 1000000 in
theorem well_true {w W : World} {c r : Nat} {ao : Option Addr} {cap : Nat} {l : List Nat} {at_ : Nat} (h : Bd w W c r ao cap l at_) : Calls Tryd.prog 62 #[.pointer (some ⟨c, 0, none⟩)] W fun e w' => e = .returned (.bool true) ∧ w' = W := by
  have c1 := h.c1
  clear h
  go_enter Tryd.func62, Tryd.ntmps62
  go_wp2
  go_ret
  exact ⟨rfl, rfl⟩
set_option maxHeartbeats 1000000 in
theorem unpack_any (ao : Option Addr) (cap n : Nat) (l : List Nat) (w : World) (h : BRow w ao cap l) (HN : Hid (l.length = n)) :
    Calls Tryd.prog 51 #[.slice ao n cap] w fun e w' => ∃ c r ao' cap', e = .returned (.pointer (some ⟨c, 0, none⟩)) ∧ Bd w w' c r ao' cap' l 0 := by
  have HR : Hid (Calls Tryd.prog 80 #[.slice ao n cap] w fun e w' => ∃ r ao' cap', e = .returned (.pointer (some ⟨r, 0, none⟩)) ∧ ROk w' w.heap.size r ao' cap' l 0 ∧ Below w.heap.size w w') := newReader_any ao cap n l w h HN
  clear h
  go_enter Tryd.func51, Tryd.ntmps51
  go_wp2_with fail
  refine HR.out.mono ?_
  rintro e W1 ⟨r, ao', cap', rfl, hok, hb⟩
  have H1 : Hid (ROk W1 w.heap.size r ao' cap' l 0 ∧ Below w.heap.size w W1) := ⟨hok, hb⟩
  clear hok hb HR
  go_wp2
  go_ret
  have k := below1 W1 (Obj.cells #[.pointer (some ⟨r, 0, none⟩), .int .i64 0] 159)
  exact ⟨_, r, ao', cap', rfl, H1.out.2.alloc H1.out.2.size _, heap_new W1 _, H1.out.2.size, ⟨box_later H1.out.1.blk k, owns_same H1.out.1.own (fun g hg => k.block g (owns_lt H1.out.1.own g hg).1), H1.out.1.lt, H1.out.1.len, H1.out.1.le, H1.out.1.hr⟩⟩
set_option maxHeartbeats 1000000 in
theorem bu16 {w W : World} {c r : Nat} {ao : Option Addr} {cap : Nat} {l : List Nat} {at_ : Nat} (h : Bd w W c r ao cap l at_) (hl : at_ + 2 ≤ l.length) : Calls Tryd.prog 60 #[.pointer (some ⟨c, 0, none⟩)] W fun e w' => e = .returned (.int .u16 ((valB ((l.drop at_).take 2) : Nat) : Int)) ∧ Bd w w' c r ao cap l (at_ + 2) ∧ KeptIn (fun g => g = r) W w' := by
  have HU : Hid (Calls Tryd.prog 94 #[.pointer (some ⟨r, 0, none⟩)] W fun e w' => e = .returned (.tuple #[.int .u16 ((valB ((l.drop at_).take 2) : Nat) : Int), .int .i64 0]) ∧ RPost W w' w.heap.size r ao cap l (at_ + 2)) := (ru16_any w.heap.size r ao cap l at_ W h.rd).mono fun e w' hh => by
    rcases hh with ⟨h1, _⟩ | ⟨_, h2, h3⟩
    · omega
    · exact ⟨h2, h3⟩
  have HN : Hid (∀ W, Calls Tryd.prog 53 #[.pointer (some ⟨c, 0, none⟩), .bool true] W fun e w' => e = .returned (.tuple #[]) ∧ w' = W) := fun W => need_true c W
  have c0 := h.c0
  have H : Hid (Bd w W c r ao cap l at_) := h
  clear h
  generalize valB ((l.drop at_).take 2) = v at *
  go_enter Tryd.func60, Tryd.ntmps60
  go_wp2_with fail
  refine HU.out.mono ?_
  rintro e W1 ⟨rfl, hp⟩
  have H1 : Hid (Bd w W1 c r ao cap l (at_ + 2) ∧ KeptIn (fun g => g = r) W W1) := ⟨H.out.moved hp, hp.kept⟩
  clear hp HU H c0
  go_wp2_with fail
  refine (HN.out _).mono ?_
  rintro e W2 ⟨rfl, hw⟩
  rw [hw]; clear hw
  go_wp2
  go_ret
  exact ⟨rfl, H1.out⟩
set_option maxHeartbeats 1000000 in
theorem bu32 {w W : World} {c r : Nat} {ao : Option Addr} {cap : Nat} {l : List Nat} {at_ : Nat} (h : Bd w W c r ao cap l at_) (hl : at_ + 4 ≤ l.length) : Calls Tryd.prog 58 #[.pointer (some ⟨c, 0, none⟩)] W fun e w' => e = .returned (.int .u32 ((valB ((l.drop at_).take 4) : Nat) : Int)) ∧ Bd w w' c r ao cap l (at_ + 4) ∧ KeptIn (fun g => g = r) W w' := by
  have HU : Hid (Calls Tryd.prog 82 #[.pointer (some ⟨r, 0, none⟩)] W fun e w' => e = .returned (.tuple #[.int .u32 ((valB ((l.drop at_).take 4) : Nat) : Int), .int .i64 0]) ∧ RPost W w' w.heap.size r ao cap l (at_ + 4)) := (ru32_any w.heap.size r ao cap l at_ W h.rd).mono fun e w' hh => by
    rcases hh with ⟨h1, _⟩ | ⟨_, h2, h3⟩
    · omega
    · exact ⟨h2, h3⟩
  have HN : Hid (∀ W, Calls Tryd.prog 53 #[.pointer (some ⟨c, 0, none⟩), .bool true] W fun e w' => e = .returned (.tuple #[]) ∧ w' = W) := fun W => need_true c W
  have c0 := h.c0
  have H : Hid (Bd w W c r ao cap l at_) := h
  clear h
  generalize valB ((l.drop at_).take 4) = v at *
  go_enter Tryd.func58, Tryd.ntmps58
  go_wp2_with fail
  refine HU.out.mono ?_
  rintro e W1 ⟨rfl, hp⟩
  have H1 : Hid (Bd w W1 c r ao cap l (at_ + 4) ∧ KeptIn (fun g => g = r) W W1) := ⟨H.out.moved hp, hp.kept⟩
  clear hp HU H c0
  go_wp2_with fail
  refine (HN.out _).mono ?_
  rintro e W2 ⟨rfl, hw⟩
  rw [hw]; clear hw
  go_wp2
  go_ret
  exact ⟨rfl, H1.out⟩
set_option maxHeartbeats 1000000 in
theorem bu64 {w W : World} {c r : Nat} {ao : Option Addr} {cap : Nat} {l : List Nat} {at_ : Nat} (h : Bd w W c r ao cap l at_) (hl : at_ + 8 ≤ l.length) : Calls Tryd.prog 52 #[.pointer (some ⟨c, 0, none⟩)] W fun e w' => e = .returned (.int .u64 ((valB ((l.drop at_).take 8) : Nat) : Int)) ∧ Bd w w' c r ao cap l (at_ + 8) ∧ KeptIn (fun g => g = r) W w' := by
  have HU : Hid (Calls Tryd.prog 83 #[.pointer (some ⟨r, 0, none⟩)] W fun e w' => e = .returned (.tuple #[.int .u64 ((valB ((l.drop at_).take 8) : Nat) : Int), .int .i64 0]) ∧ RPost W w' w.heap.size r ao cap l (at_ + 8)) := (ru64_any w.heap.size r ao cap l at_ W h.rd).mono fun e w' hh => by
    rcases hh with ⟨h1, _⟩ | ⟨_, h2, h3⟩
    · omega
    · exact ⟨h2, h3⟩
  have HN : Hid (∀ W, Calls Tryd.prog 53 #[.pointer (some ⟨c, 0, none⟩), .bool true] W fun e w' => e = .returned (.tuple #[]) ∧ w' = W) := fun W => need_true c W
  have c0 := h.c0
  have H : Hid (Bd w W c r ao cap l at_) := h
  clear h
  generalize valB ((l.drop at_).take 8) = v at *
  go_enter Tryd.func52, Tryd.ntmps52
  go_wp2_with fail
  refine HU.out.mono ?_
  rintro e W1 ⟨rfl, hp⟩
  have H1 : Hid (Bd w W1 c r ao cap l (at_ + 8) ∧ KeptIn (fun g => g = r) W W1) := ⟨H.out.moved hp, hp.kept⟩
  clear hp HU H c0
  go_wp2_with fail
  refine (HN.out _).mono ?_
  rintro e W2 ⟨rfl, hw⟩
  rw [hw]; clear hw
  go_wp2
  go_ret
  exact ⟨rfl, H1.out⟩
end Go.Proofs.YtefgdhoapmikhaaDoor
namespace Go.Proofs.YtefgdhoapmikhaaDoor
open Go.RowKit
set_option linter.unusedVariables false
set_option linter.unusedSimpArgs false
set_option maxRecDepth 100000
theorem results_cell_tmp1 {P : Program} {fn : Func} {p u : Tmp} {ty : TypeId} (h : fn.results = #[.cell p ty, .tmp u]) (tmps : Array Value) (w : World) (g : Nat) (t : TypeId) (cs : Array Value) (fr : Nat × Nat) (d : TypeDesc)
    (hp : tmps.getD p undef = .pointer (some ⟨g, 0, none⟩)) (hg : w.heap[g]? = some (.cells cs t fr))
    (hu : P.underlying ty = some d) (hd : (match d with | .struct _ | .array _ _ => true | _ => false) = true) (hi : (P.info? ty).map (·.size) = some cs.size) :
    (results fn tmps).run P w = .ok (.tuple #[.agg cs, tmps.getD u undef]) w := by
  have hp' : tmps[p]?.getD undef = .pointer (some ⟨g, 0, none⟩) := by simpa using hp
  simp [results, h, hp', asAddr, Sem.run_bind, Result.andThen, run_loadVar_row w g t ty cs fr d hg hu hd hi]
theorem put4 {W : World} {g : Nat} {t : TypeId} {a0 a1 a2 a3 : Value} (h : W.heap[g]? = some (.cells #[a0, a1, a2, a3] t (0, 0))) (v0 v1 v2 v3 : Value) :
    ((((W.setCell ⟨g, 0, none⟩ v0).setCell ⟨g, 1, none⟩ v1).setCell ⟨g, 2, none⟩ v2).setCell ⟨g, 3, none⟩ v3).heap[g]? = some (.cells #[v0, v1, v2, v3] t (0, 0)) ∧ KeptIn (fun k => k = g) W ((((W.setCell ⟨g, 0, none⟩ v0).setCell ⟨g, 1, none⟩ v1).setCell ⟨g, 2, none⟩ v2).setCell ⟨g, 3, none⟩ v3) := by
  have h1 : (W.setCell ⟨g, 0, none⟩ v0).heap[g]? = some (.cells #[v0, a1, a2, a3] t (0, 0)) := put_boxX h 0 v0 (by simp)
  have h2 : ((W.setCell ⟨g, 0, none⟩ v0).setCell ⟨g, 1, none⟩ v1).heap[g]? = some (.cells #[v0, v1, a2, a3] t (0, 0)) := put_boxX h1 1 v1 (by simp)
  have h3 : (((W.setCell ⟨g, 0, none⟩ v0).setCell ⟨g, 1, none⟩ v1).setCell ⟨g, 2, none⟩ v2).heap[g]? = some (.cells #[v0, v1, v2, a3] t (0, 0)) := put_boxX h2 2 v2 (by simp)
  have h4 : ((((W.setCell ⟨g, 0, none⟩ v0).setCell ⟨g, 1, none⟩ v1).setCell ⟨g, 2, none⟩ v2).setCell ⟨g, 3, none⟩ v3).heap[g]? = some (.cells #[v0, v1, v2, v3] t (0, 0)) := put_boxX h3 3 v3 (by simp)
  exact ⟨h4, (((keptIn_set _ _ _ _).trans (keptIn_set _ _ _ _) (fun _ _ hn => hn)).trans (keptIn_set _ _ _ _) (fun _ _ hn => hn)).trans (keptIn_set _ _ _ _) (fun _ _ hn => hn)⟩
theorem infoEb : (Tryd.prog.info? 81).map (·.size) = some 4 := by kernel_rfl
theorem conv_str0 (w : World) (a : Option Addr) (c : Nat) : (convert 27 9 (.slice a 0 c)).run Tryd.prog w = .ok (.string ⟨#[]⟩) w := by
  rw [run_convert_bytes_string w 27 9 5 _ _ _ Tryd.underlying27 Tryd.underlying5 Tryd.underlying9]
  cases a <;> rfl
set_option maxHeartbeats 1000000 in
theorem rend_any (B r : Nat) (ao : Option Addr) (cap : Nat) (l : List Nat) (w : World) (h : ROk w B r ao cap l l.length) :
    Calls Tryd.prog 92 #[.pointer (some ⟨r, 0, none⟩)] w fun e w' => e = .returned (.int .i64 0) ∧ ∃ q, w' = w.drewN q := by
  have HU : Hid (Calls Tryd.prog 106 #[.pointer (some ⟨r, 0, none⟩)] w fun e w' => e = .returned (.bool true) ∧ w' = w) := rusable_true r w h.c0
  have HLf : Hid (Calls Tryd.prog 90 #[.pointer (some ⟨r, 0, none⟩)] w fun e w' => e = .returned (.int .i64 0) ∧ ∃ q, w' = w.drewN q) := by
    have := rleft_any B r ao cap l l.length l.length w h rfl
    rwa [Int.sub_self] at this
  clear h
  go_enter Tryd.func92, Tryd.ntmps92
  go_wp2_with fail
  refine HU.out.mono ?_
  rintro e w1 ⟨rfl, hw⟩
  rw [hw]; clear hw
  go_wp2_with fail
  refine HLf.out.mono ?_
  rintro e w1 ⟨rfl, q, hw⟩
  rw [hw]; clear hw
  go_wp2
  go_ret
  exact ⟨rfl, _, rfl⟩
set_option maxHeartbeats 1000000 in
theorem braw0 {w W : World} {c r : Nat} {ao : Option Addr} {cap : Nat} {l : List Nat} {at_ : Nat} (h : Bd w W c r ao cap l at_) (hl : 0 < l.length) : Calls Tryd.prog 55 #[.pointer (some ⟨c, 0, none⟩), .int .i64 0] W fun e w' => ∃ ao2 cap2, e = .returned (.slice ao2 0 cap2) ∧ Bd w w' c r ao cap l at_ ∧ KeptIn (fun g => g = r) W w' := by
  obtain ⟨g, rfl⟩ := some_of_len h.rd hl
  have HU : Hid (Calls Tryd.prog 91 #[.pointer (some ⟨r, 0, none⟩), .int .i64 0] W fun e w' => ∃ ao2 cap2, e = .returned (.tuple #[.slice ao2 0 cap2, .int .i64 0]) ∧ RPost W w' w.heap.size r (some ⟨g, 0, none⟩) cap l at_) := (rraw_ok w.heap.size r g cap l at_ l.length 0 W h.rd rfl h.rd.le).mono fun e w' ⟨a, b, h1, _, h3⟩ => ⟨a, b, h1, h3⟩
  have HN : Hid (∀ W, Calls Tryd.prog 53 #[.pointer (some ⟨c, 0, none⟩), .bool true] W fun e w' => e = .returned (.tuple #[]) ∧ w' = W) := fun W => need_true c W
  have c0 := h.c0
  have H : Hid (Bd w W c r (some ⟨g, 0, none⟩) cap l at_) := h
  clear h
  go_enter Tryd.func55, Tryd.ntmps55
  go_wp2_with fail
  refine HU.out.mono ?_
  rintro e W1 ⟨a2, c2, rfl, hp⟩
  have H1 : Hid (Bd w W1 c r (some ⟨g, 0, none⟩) cap l at_ ∧ KeptIn (fun g => g = r) W W1) := ⟨H.out.moved hp, hp.kept⟩
  clear hp HU H c0
  go_wp2_with fail
  refine (HN.out _).mono ?_
  rintro e W2 ⟨rfl, hw⟩
  rw [hw]; clear hw
  go_wp2
  go_ret
  exact ⟨_, _, rfl, H1.out⟩
set_option maxHeartbeats 1000000 in
theorem brawText0 {w W : World} {c r : Nat} {ao : Option Addr} {cap : Nat} {l : List Nat} {at_ : Nat} (h : Bd w W c r ao cap l at_) (hl : 0 < l.length) : Calls Tryd.prog 59 #[.pointer (some ⟨c, 0, none⟩), .int .i64 0] W fun e w' => e = .returned (.string ⟨#[]⟩) ∧ Bd w w' c r ao cap l at_ ∧ KeptIn (fun g => g = r) W w' := by
  have HU : Hid (Calls Tryd.prog 55 #[.pointer (some ⟨c, 0, none⟩), .int .i64 0] W fun e w' => ∃ ao2 cap2, e = .returned (.slice ao2 0 cap2) ∧ Bd w w' c r ao cap l at_ ∧ KeptIn (fun g => g = r) W w') := braw0 h hl
  have HN : Hid (∀ W, Calls Tryd.prog 53 #[.pointer (some ⟨c, 0, none⟩), .bool true] W fun e w' => e = .returned (.tuple #[]) ∧ w' = W) := fun W => need_true c W
  have HT : Hid (∀ w, Calls Tryd.prog 93 #[.string ⟨#[]⟩] w fun e w' => e = .returned (.bool true) ∧ w' = w) := isText0
  clear h
  go_enter Tryd.func59, Tryd.ntmps59
  go_wp2_with fail
  refine HU.out.mono ?_
  rintro e W1 ⟨a2, c2, rfl, hp⟩
  have H1 : Hid (Bd w W1 c r ao cap l at_ ∧ KeptIn (fun g => g = r) W W1) := hp
  have hcv := conv_str0 W1 a2 c2
  clear hp HU
  go_wp2_with fail
  refine (HT.out _).mono ?_
  rintro e W2 ⟨rfl, hw⟩
  rw [hw]; clear hw
  go_wp2_with fail
  refine (HN.out _).mono ?_
  rintro e W2 ⟨rfl, hw⟩
  rw [hw]; clear hw
  go_wp2
  go_ret
  exact ⟨rfl, H1.out⟩
set_option maxHeartbeats 1000000 in
theorem wholeE (cd a : Nat) (pl : Bool) {w W : World} {c r : Nat} {ao : Option Addr} {cap : Nat} {l : List Nat} {at_ : Nat} (h : Bd w W c r ao cap l l.length) :
    Calls Tryd.prog 61 #[.pointer (some ⟨c, 0, none⟩), .agg #[.int .u32 (cd : Int), .string ⟨#[]⟩, .bool pl, .int .u64 (a : Int)]] W fun e w' => e = .returned (.tuple #[.agg #[.int .u32 (cd : Int), .string ⟨#[]⟩, .bool pl, .int .u64 (a : Int)], .int .i64 0]) ∧ Below w.heap.size w w' := by
  have HE : Hid (∀ W, Bd w W c r ao cap l l.length → Calls Tryd.prog 92 #[.pointer (some ⟨r, 0, none⟩)] W fun e w' => e = .returned (.int .i64 0) ∧ ∃ q, w' = W.drewN q) := fun W h => rend_any w.heap.size r ao cap l W h.rd
  have HN : Hid (∀ W, Calls Tryd.prog 53 #[.pointer (some ⟨c, 0, none⟩), .bool true] W fun e w' => e = .returned (.tuple #[]) ∧ w' = W) := fun W => need_true c W
  have HW : Hid (∀ W, Bd w W c r ao cap l l.length → Calls Tryd.prog 62 #[.pointer (some ⟨c, 0, none⟩)] W fun e w' => e = .returned (.bool true) ∧ w' = W) := fun W h => well_true h
  have H : Hid (Bd w W c r ao cap l l.length) := h
  clear h
  have q0 : ∀ o, (W.alloc o).cell? ⟨c, 0, none⟩ = some (.pointer (some ⟨r, 0, none⟩)) := fun o => (H.out.later (below1 W o)).c0
  have q00 : ∀ o o', ((W.alloc o).alloc o').cell? ⟨c, 0, none⟩ = some (.pointer (some ⟨r, 0, none⟩)) := fun o o' => (H.out.later (below2 W o o')).c0
  go_enter Tryd.func61, Tryd.ntmps61
  go_wp2_with fail
  have hx : Bx2 W ((W.alloc (Obj.cells #[.int .u32 (cd : Int), .string ⟨#[]⟩, .bool pl, .int .u64 (a : Int)] 81)).alloc (Obj.cells #[.int .u32 0, .string ⟨#[]⟩, .bool false, .int .u64 0] 81)) #[.int .u32 (cd : Int), .string ⟨#[]⟩, .bool pl, .int .u64 (a : Int)] #[.int .u32 0, .string ⟨#[]⟩, .bool false, .int .u64 0] 81 81 := mkb2 W _ _ _ _
  generalize ((W.alloc (Obj.cells #[.int .u32 (cd : Int), .string ⟨#[]⟩, .bool pl, .int .u64 (a : Int)] 81)).alloc (Obj.cells #[.int .u32 0, .string ⟨#[]⟩, .bool false, .int .u64 0] 81)) = W5 at *
  refine (HE.out _ (H.out.later hx.bel)).mono ?_
  rintro e W6 ⟨rfl, q, hw⟩
  have hy : Bx2 W W6 #[.int .u32 (cd : Int), .string ⟨#[]⟩, .bool pl, .int .u64 (a : Int)] #[.int .u32 0, .string ⟨#[]⟩, .bool false, .int .u64 0] 81 81 := by rw [hw]; exact hx.later (below_drewN _ q)
  have H6 : Hid (Bd w W6 c r ao cap l l.length ∧ Bx2 W W6 #[.int .u32 (cd : Int), .string ⟨#[]⟩, .bool pl, .int .u64 (a : Int)] #[.int .u32 0, .string ⟨#[]⟩, .bool false, .int .u64 0] 81 81) := ⟨H.out.later hy.bel, hy⟩
  clear hw hx hy HE q0 q00
  go_wp2_with fail
  refine (HN.out _).mono ?_
  rintro e W7 ⟨rfl, hw⟩
  rw [hw]; clear hw
  go_wp2_with fail
  refine (HW.out _ H6.out.1).mono ?_
  rintro e W7 ⟨rfl, hw⟩
  rw [hw]; clear hw HN HW
  have hy := H6.out.2
  have y0 : W6.cell? ⟨W.heap.size, 0, none⟩ = some (.int .u32 (cd : Int)) := by rw [blk_at hy.a]; rfl
  have y1 : W6.cell? ⟨W.heap.size, 1, none⟩ = some (.string ⟨#[]⟩) := by rw [blk_at hy.a]; rfl
  have y2 : W6.cell? ⟨W.heap.size, 2, none⟩ = some (.bool pl) := by rw [blk_at hy.a]; rfl
  have y3 : W6.cell? ⟨W.heap.size, 3, none⟩ = some (.int .u64 (a : Int)) := by rw [blk_at hy.a]; rfl
  have z0 : W6.cell? ⟨W.heap.size + 1, 0, none⟩ = some (.int .u32 0) := by rw [blk_at hy.b]; rfl
  have z1 : W6.cell? ⟨W.heap.size + 1, 1, none⟩ = some (.string ⟨#[]⟩) := by rw [blk_at hy.b]; rfl
  have z2 : W6.cell? ⟨W.heap.size + 1, 2, none⟩ = some (.bool false) := by rw [blk_at hy.b]; rfl
  have z3 : W6.cell? ⟨W.heap.size + 1, 3, none⟩ = some (.int .u64 0) := by rw [blk_at hy.b]; rfl
  have yb0 : W6.frozen? ⟨W.heap.size + 1, 0, none⟩ = false := blk_free hy.b 0
  have yb1 : W6.frozen? ⟨W.heap.size + 1, 1, none⟩ = false := blk_free hy.b 1
  have yb2 : W6.frozen? ⟨W.heap.size + 1, 2, none⟩ = false := blk_free hy.b 2
  have yb3 : W6.frozen? ⟨W.heap.size + 1, 3, none⟩ = false := blk_free hy.b 3
  clear hy
  go_wp2
  obtain ⟨hp, hq⟩ := put4 H6.out.2.b (.int .u32 (cd : Int)) (.string ⟨#[]⟩) (.bool pl) (.int .u64 (a : Int))
  exact bodyPost_ret (results_cell_tmp1 rfl _ _ (W.heap.size + 1) 81 _ (0, 0) _ rfl hp Tryd.underlying81 rfl infoEb) rfl ⟨rfl, H6.out.1.bel.trans (hq.below H6.out.1.bel.size (fun g hg => by have := H.out.bel.size; omega))⟩
theorem val_of' {l pre tl : List Nat} (x k a : Nat) (h : l = pre ++ (bigTo x k k ++ tl)) (ha : pre.length = a) (hx : x < 256 ^ k) : valB ((l.drop a).take k) = x := by
  rw [h, ← ha, List.drop_left, List.take_left' (bigTo_length x k k), valB_big x k hx]
theorem Bd.keep {w W W' : World} {c r : Nat} {ao : Option Addr} {cap : Nat} {l : List Nat} {at_ ge : Nat} {A : Array Value} (h : Bd w W c r ao cap l at_) (eb : W.heap[ge]? = some (.cells A 81 (0, 0))) (k : KeptIn (fun g => g = r) W W') : W'.heap[ge]? = some (.cells A 81 (0, 0)) := by
  rw [k.block ge (block_lt eb) (by rintro rfl; have := h.rd.blk; rw [eb] at this; simp at this)]
  exact eb
theorem Bd.put {w W : World} {c r : Nat} {ao : Option Addr} {cap : Nat} {l : List Nat} {at_ ge : Nat} {A : Array Value} (h : Bd w W c r ao cap l at_) (eb : W.heap[ge]? = some (.cells A 81 (0, 0))) (hge : w.heap.size ≤ ge) (j : Nat) (v : Value) : Bd w (W.setCell ⟨ge, j, none⟩ v) c r ao cap l at_ := by
  have k := keptIn_set W ge j v
  have n1 : c ≠ ge := by rintro rfl; have := h.bd; rw [eb] at this; simp at this
  have n2 : r ≠ ge := by rintro rfl; have := h.rd.blk; rw [eb] at this; simp at this
  refine ⟨h.bel.trans (k.below h.bel.size (fun g hg e => by omega)), by rw [k.block c (block_lt h.bd) n1]; exact h.bd, h.hc, ⟨by rw [k.block r (block_lt h.rd.blk) n2]; exact h.rd.blk, owns_same h.rd.own (fun g hg => k.block g (owns_lt h.rd.own g hg).1 (fun e => ?_)), h.rd.lt, h.rd.len, h.rd.le, h.rd.hr⟩⟩
  obtain ⟨cur, h1⟩ := owns_type h.rd.own g hg
  rw [e, eb] at h1
  simp at h1
set_option maxHeartbeats 2000000 in
theorem unpackE1 (cd a : Nat) (ao : Option Addr) (cap : Nat) (w : World) (h1 : cd < 4294967296) (h2 : a < 18446744073709551616) (h : BRow w ao cap (erL cd true a)) :
    Calls Tryd.prog 30 #[.slice ao 14 cap, .bool true] w fun e w' => e = .returned (.tuple #[.agg #[.int .u32 (cd : Int), .string ⟨#[]⟩, .bool true, .int .u64 (a : Int)], .int .i64 0]) ∧ Below w.heap.size w w' := by
  have hl : (erL cd true a).length = 14 := by simp [erL, bigTo_length]
  have HV0 : Hid (valB (((erL cd true a).drop 0).take 4) = cd) := val_of' (pre := []) (tl := bigTo 0 2 2 ++ bigTo a 8 8) cd 4 0 (by simp [erL]) rfl (by omega)
  have HV4 : Hid (valB (((erL cd true a).drop (0 + 4)).take 2) = 0) := val_of' (pre := bigTo cd 4 4) (tl := bigTo a 8 8) 0 2 4 (by simp [erL]) (by simp [bigTo_length]) (by omega)
  have HV6 : Hid (valB (((erL cd true a).drop (0 + 4 + 2)).take 8) = a) := val_of' (pre := bigTo cd 4 4 ++ bigTo 0 2 2) (tl := []) a 8 6 (by simp [erL]) (by simp [bigTo_length]) (by omega)
  generalize erL cd true a = l at *
  have HUp : Hid (∀ W, Below w.heap.size w W → Calls Tryd.prog 51 #[.slice ao 14 cap] W fun e w' => ∃ c r ao' cap', e = .returned (.pointer (some ⟨c, 0, none⟩)) ∧ Bd W w' c r ao' cap' l 0) := fun W hb => unpack_any ao cap 14 l W (h.later hb) hl
  have HL : Hid (l.length = 14) := hl
  clear h hl
  go_enter Tryd.func30, Tryd.ntmps30
  go_wp2_with fail
  have hx := mkb1 w #[.int .u32 0, .string ⟨#[]⟩, .bool false, .int .u64 0] 81
  generalize w.alloc (Obj.cells #[.int .u32 0, .string ⟨#[]⟩, .bool false, .int .u64 0] 81) = W0 at *
  refine (HUp.out _ hx.bel).mono ?_
  rintro e W1 ⟨c, r, ao', cap', rfl, hbd⟩
  have HX : Hid (Bx1 w W0 #[.int .u32 0, .string ⟨#[]⟩, .bool false, .int .u64 0] 81) := hx
  have H1 : Hid (Bd W0 W1 c r ao' cap' l 0) := hbd
  clear hx hbd HUp
  go_wp2_with fail
  refine (bu32 H1.out (by rw [HL.out]; decide)).mono ?_
  rintro e W2 ⟨rfl, hbd, _⟩
  rw [HV0.out]
  have H2 : Hid (Bd W0 W2 c r ao' cap' l (0 + 4)) := hbd
  clear hbd H1 HV0
  go_wp2_with fail
  have h3 : Bd W0 (W2.alloc (Obj.cells #[.int .u32 (cd : Int), .string ⟨#[]⟩, .bool true, .int .u64 0] 81)) c r ao' cap' l (0 + 4) := H2.out.later (below1 W2 _)
  have eb3 := heap_new W2 (Obj.cells #[.int .u32 (cd : Int), .string ⟨#[]⟩, .bool true, .int .u64 0] 81)
  have HG : Hid (W0.heap.size ≤ W2.heap.size) := H2.out.bel.size
  generalize W2.alloc (Obj.cells #[.int .u32 (cd : Int), .string ⟨#[]⟩, .bool true, .int .u64 0] 81) = W3 at *
  generalize W2.heap.size = ge at *
  refine (bu16 h3 (by rw [HL.out]; decide)).mono ?_
  rintro e W4 ⟨rfl, h4, hk⟩
  have eb4 := h3.keep eb3 hk
  rw [HV4.out]
  clear h3 eb3 hk H2 HV4
  have H4 : Hid (Bd W0 W4 c r ao' cap' l (0 + 4 + 2) ∧ W4.heap[ge]? = some (.cells #[.int .u32 (cd : Int), .string ⟨#[]⟩, .bool true, .int .u64 0] 81 (0, 0))) := ⟨h4, eb4⟩
  clear h4 eb4
  go_wp2_with fail
  refine (brawText0 H4.out.1 (by rw [HL.out]; decide)).mono ?_
  rintro e W5 ⟨rfl, h5, hk⟩
  have eb5 := H4.out.1.keep H4.out.2 hk
  clear hk H4
  have y1 : W5.cell? ⟨ge, 1, none⟩ = some (.string ⟨#[]⟩) := by rw [blk_at eb5]; rfl
  have f1 := blk_free eb5 1
  have h6 : Bd W0 (W5.setCell ⟨ge, 1, none⟩ (.string ⟨#[]⟩)) c r ao' cap' l (0 + 4 + 2) ∧ (W5.setCell ⟨ge, 1, none⟩ (.string ⟨#[]⟩)).heap[ge]? = some (.cells #[.int .u32 (cd : Int), .string ⟨#[]⟩, .bool true, .int .u64 0] 81 (0, 0)) := ⟨h5.put eb5 HG.out 1 _, put_boxX eb5 1 _ (by simp)⟩
  clear h5 eb5
  go_wp2_with fail
  generalize W5.setCell ⟨ge, 1, none⟩ (.string ⟨#[]⟩) = W6 at *
  refine (bu64 h6.1 (by rw [HL.out]; decide)).mono ?_
  rintro e W7 ⟨rfl, h7, hk⟩
  have eb7 := h6.1.keep h6.2 hk
  rw [HV6.out]
  clear h6 hk HV6 y1 f1
  have y3 : W7.cell? ⟨ge, 3, none⟩ = some (.int .u64 0) := by rw [blk_at eb7]; rfl
  have f3 := blk_free eb7 3
  have h8 : Bd W0 (W7.setCell ⟨ge, 3, none⟩ (.int .u64 (a : Int))) c r ao' cap' l (0 + 4 + 2 + 8) ∧ (W7.setCell ⟨ge, 3, none⟩ (.int .u64 (a : Int))).heap[ge]? = some (.cells #[.int .u32 (cd : Int), .string ⟨#[]⟩, .bool true, .int .u64 (a : Int)] 81 (0, 0)) := ⟨h7.put eb7 HG.out 3 _, put_boxX eb7 3 _ (by simp)⟩
  obtain ⟨W8, hW8⟩ : ∃ W8, W8 = W7.setCell ⟨ge, 3, none⟩ (.int .u64 (a : Int)) := ⟨_, rfl⟩
  rw [← hW8] at h8
  have k0 : (W7.setCell ⟨ge, 3, none⟩ (.int .u64 (a : Int))).cell? ⟨ge, 0, none⟩ = some (.int .u32 (cd : Int)) := by rw [← hW8, blk_at h8.2]; rfl
  have k1 : (W7.setCell ⟨ge, 3, none⟩ (.int .u64 (a : Int))).cell? ⟨ge, 1, none⟩ = some (.string ⟨#[]⟩) := by rw [← hW8, blk_at h8.2]; rfl
  have k2 : (W7.setCell ⟨ge, 3, none⟩ (.int .u64 (a : Int))).cell? ⟨ge, 2, none⟩ = some (.bool true) := by rw [← hW8, blk_at h8.2]; rfl
  have k3 : (W7.setCell ⟨ge, 3, none⟩ (.int .u64 (a : Int))).cell? ⟨ge, 3, none⟩ = some (.int .u64 (a : Int)) := by rw [← hW8, blk_at h8.2]; rfl
  clear h7 eb7
  have H8 : Hid (Bd W0 W8 c r ao' cap' l l.length) := by have := h8.1; rwa [show 0 + 4 + 2 + 8 = l.length by rw [HL.out]] at this
  clear h8
  go_wp2_with fail
  rw [← hW8]
  refine (wholeE (at_ := 0) cd a true H8.out).mono ?_
  rintro e W9 ⟨rfl, hb9⟩
  have H9 : Hid (Bx1 w W9 #[.int .u32 0, .string ⟨#[]⟩, .bool false, .int .u64 0] 81) := HX.out.later hb9
  have hy := H9.out
  have z0 : W9.cell? ⟨w.heap.size, 0, none⟩ = some (.int .u32 0) := by rw [blk_at hy.a]; rfl
  have z1 : W9.cell? ⟨w.heap.size, 1, none⟩ = some (.string ⟨#[]⟩) := by rw [blk_at hy.a]; rfl
  have z2 : W9.cell? ⟨w.heap.size, 2, none⟩ = some (.bool false) := by rw [blk_at hy.a]; rfl
  have z3 : W9.cell? ⟨w.heap.size, 3, none⟩ = some (.int .u64 0) := by rw [blk_at hy.a]; rfl
  have ya0 : W9.frozen? ⟨w.heap.size, 0, none⟩ = false := blk_free hy.a 0
  have ya1 : W9.frozen? ⟨w.heap.size, 1, none⟩ = false := blk_free hy.a 1
  have ya2 : W9.frozen? ⟨w.heap.size, 2, none⟩ = false := blk_free hy.a 2
  have ya3 : W9.frozen? ⟨w.heap.size, 3, none⟩ = false := blk_free hy.a 3
  clear hy hb9 hW8 k0 k1 k2 k3
  go_wp2
  obtain ⟨hp, hq⟩ := put4 H9.out.a (.int .u32 (cd : Int)) (.string ⟨#[]⟩) (.bool true) (.int .u64 (a : Int))
  exact bodyPost_ret (results_cell_tmp1 rfl _ _ w.heap.size 81 _ (0, 0) _ rfl hp Tryd.underlying81 rfl infoEb) rfl ⟨rfl, H9.out.bel.trans (hq.below H9.out.bel.size (fun g hg => by omega))⟩
set_option maxHeartbeats 2000000 in
theorem unpackE0 (cd a : Nat) (ao : Option Addr) (cap : Nat) (w : World) (h1 : cd < 4294967296) (h2 : a < 18446744073709551616) (ha : a = 0) (h : BRow w ao cap (erL cd false a)) :
    Calls Tryd.prog 30 #[.slice ao 6 cap, .bool false] w fun e w' => e = .returned (.tuple #[.agg #[.int .u32 (cd : Int), .string ⟨#[]⟩, .bool false, .int .u64 (a : Int)], .int .i64 0]) ∧ Below w.heap.size w w' := by
  have hl : (erL cd false a).length = 6 := by simp [erL, bigTo_length]
  have HV0 : Hid (valB (((erL cd false a).drop 0).take 4) = cd) := val_of' (pre := []) (tl := bigTo 0 2 2) cd 4 0 (by simp [erL]) rfl (by omega)
  have HV4 : Hid (valB (((erL cd false a).drop (0 + 4)).take 2) = 0) := val_of' (pre := bigTo cd 4 4) (tl := []) 0 2 4 (by simp [erL]) (by simp [bigTo_length]) (by omega)
  subst ha
  generalize erL cd false 0 = l at *
  have HUp : Hid (∀ W, Below w.heap.size w W → Calls Tryd.prog 51 #[.slice ao 6 cap] W fun e w' => ∃ c r ao' cap', e = .returned (.pointer (some ⟨c, 0, none⟩)) ∧ Bd W w' c r ao' cap' l 0) := fun W hb => unpack_any ao cap 6 l W (h.later hb) hl
  have HL : Hid (l.length = 6) := hl
  clear h hl
  go_enter Tryd.func30, Tryd.ntmps30
  go_wp2_with fail
  have hx := mkb1 w #[.int .u32 0, .string ⟨#[]⟩, .bool false, .int .u64 0] 81
  generalize w.alloc (Obj.cells #[.int .u32 0, .string ⟨#[]⟩, .bool false, .int .u64 0] 81) = W0 at *
  refine (HUp.out _ hx.bel).mono ?_
  rintro e W1 ⟨c, r, ao', cap', rfl, hbd⟩
  have HX : Hid (Bx1 w W0 #[.int .u32 0, .string ⟨#[]⟩, .bool false, .int .u64 0] 81) := hx
  have H1 : Hid (Bd W0 W1 c r ao' cap' l 0) := hbd
  clear hx hbd HUp
  go_wp2_with fail
  refine (bu32 H1.out (by rw [HL.out]; decide)).mono ?_
  rintro e W2 ⟨rfl, hbd, _⟩
  rw [HV0.out]
  have H2 : Hid (Bd W0 W2 c r ao' cap' l (0 + 4)) := hbd
  clear hbd H1 HV0
  go_wp2_with fail
  have h3 : Bd W0 (W2.alloc (Obj.cells #[.int .u32 (cd : Int), .string ⟨#[]⟩, .bool false, .int .u64 0] 81)) c r ao' cap' l (0 + 4) := H2.out.later (below1 W2 _)
  have eb3 := heap_new W2 (Obj.cells #[.int .u32 (cd : Int), .string ⟨#[]⟩, .bool false, .int .u64 0] 81)
  have HG : Hid (W0.heap.size ≤ W2.heap.size) := H2.out.bel.size
  generalize W2.alloc (Obj.cells #[.int .u32 (cd : Int), .string ⟨#[]⟩, .bool false, .int .u64 0] 81) = W3 at *
  generalize W2.heap.size = ge at *
  refine (bu16 h3 (by rw [HL.out]; decide)).mono ?_
  rintro e W4 ⟨rfl, h4, hk⟩
  have eb4 := h3.keep eb3 hk
  rw [HV4.out]
  clear h3 eb3 hk H2 HV4
  have H4 : Hid (Bd W0 W4 c r ao' cap' l (0 + 4 + 2) ∧ W4.heap[ge]? = some (.cells #[.int .u32 (cd : Int), .string ⟨#[]⟩, .bool false, .int .u64 0] 81 (0, 0))) := ⟨h4, eb4⟩
  clear h4 eb4
  go_wp2_with fail
  refine (brawText0 H4.out.1 (by rw [HL.out]; decide)).mono ?_
  rintro e W5 ⟨rfl, h5, hk⟩
  have eb5 := H4.out.1.keep H4.out.2 hk
  clear hk H4
  have y1 : W5.cell? ⟨ge, 1, none⟩ = some (.string ⟨#[]⟩) := by rw [blk_at eb5]; rfl
  have f1 := blk_free eb5 1
  have h6 : Bd W0 (W5.setCell ⟨ge, 1, none⟩ (.string ⟨#[]⟩)) c r ao' cap' l (0 + 4 + 2) ∧ (W5.setCell ⟨ge, 1, none⟩ (.string ⟨#[]⟩)).heap[ge]? = some (.cells #[.int .u32 (cd : Int), .string ⟨#[]⟩, .bool false, .int .u64 0] 81 (0, 0)) := ⟨h5.put eb5 HG.out 1 _, put_boxX eb5 1 _ (by simp)⟩
  clear h5 eb5
  have h8 := h6
  obtain ⟨W8, hW8⟩ : ∃ W8, W8 = W5.setCell ⟨ge, 1, none⟩ (.string ⟨#[]⟩) := ⟨_, rfl⟩
  rw [← hW8] at h8
  have k0 : (W5.setCell ⟨ge, 1, none⟩ (.string ⟨#[]⟩)).cell? ⟨ge, 0, none⟩ = some (.int .u32 (cd : Int)) := by rw [← hW8, blk_at h8.2]; rfl
  have k1 : (W5.setCell ⟨ge, 1, none⟩ (.string ⟨#[]⟩)).cell? ⟨ge, 1, none⟩ = some (.string ⟨#[]⟩) := by rw [← hW8, blk_at h8.2]; rfl
  have k2 : (W5.setCell ⟨ge, 1, none⟩ (.string ⟨#[]⟩)).cell? ⟨ge, 2, none⟩ = some (.bool false) := by rw [← hW8, blk_at h8.2]; rfl
  have k3 : (W5.setCell ⟨ge, 1, none⟩ (.string ⟨#[]⟩)).cell? ⟨ge, 3, none⟩ = some (.int .u64 0) := by rw [← hW8, blk_at h8.2]; rfl
  clear h6
  have H8 : Hid (Bd W0 W8 c r ao' cap' l l.length) := by have := h8.1; rwa [show 0 + 4 + 2 = l.length by rw [HL.out]] at this
  clear h8
  go_wp2_with fail
  rw [← hW8]
  refine (wholeE (at_ := 0) cd 0 false H8.out).mono ?_
  rintro e W9 ⟨rfl, hb9⟩
  have H9 : Hid (Bx1 w W9 #[.int .u32 0, .string ⟨#[]⟩, .bool false, .int .u64 0] 81) := HX.out.later hb9
  have hy := H9.out
  have z0 : W9.cell? ⟨w.heap.size, 0, none⟩ = some (.int .u32 0) := by rw [blk_at hy.a]; rfl
  have z1 : W9.cell? ⟨w.heap.size, 1, none⟩ = some (.string ⟨#[]⟩) := by rw [blk_at hy.a]; rfl
  have z2 : W9.cell? ⟨w.heap.size, 2, none⟩ = some (.bool false) := by rw [blk_at hy.a]; rfl
  have z3 : W9.cell? ⟨w.heap.size, 3, none⟩ = some (.int .u64 0) := by rw [blk_at hy.a]; rfl
  have ya0 : W9.frozen? ⟨w.heap.size, 0, none⟩ = false := blk_free hy.a 0
  have ya1 : W9.frozen? ⟨w.heap.size, 1, none⟩ = false := blk_free hy.a 1
  have ya2 : W9.frozen? ⟨w.heap.size, 2, none⟩ = false := blk_free hy.a 2
  have ya3 : W9.frozen? ⟨w.heap.size, 3, none⟩ = false := blk_free hy.a 3
  clear hy hb9 hW8 k0 k1 k2 k3
  go_wp2
  obtain ⟨hp, hq⟩ := put4 H9.out.a (.int .u32 (cd : Int)) (.string ⟨#[]⟩) (.bool false) (.int .u64 0)
  exact bodyPost_ret (results_cell_tmp1 rfl _ _ w.heap.size 81 _ (0, 0) _ rfl hp Tryd.underlying81 rfl infoEb) rfl ⟨rfl, H9.out.bel.trans (hq.below H9.out.bel.size (fun g hg => by omega))⟩
end Go.Proofs.YtefgdhoapmikhaaDoor
