import Derived.Test.YtpchllepboolhaazDP
namespace Go.Proofs.Ytpchllepboolhaa.D
open Go.RowKit Go.Proofs.Ytpchllepboolhaa.I
attribute [local go_sem] Oper.semAt_some
attribute [local go_sem ↓] Go.wp_at_zero Go.wp_at_succ
set_option linter.unusedVariables false
set_option linter.unusedSimpArgs false
set_option maxRecDepth 100000

abbrev TAc : TypeId := 31
theorem stp_other {kind k : Int} {A : List It} (h1 : kind ≠ 1) (h2 : kind ≠ 2) (h3 : kind ≠ 3) (h4 : kind ≠ 4) (h5 : kind ≠ 5) : stp kind k A = A := by unfold stp; rw [if_neg h1, if_neg h2, if_neg h3, if_neg h4, if_neg h5]
theorem SAct.idle {W W1 : World} {bo bm g : Nat} {L : List Ent} {bd : Nat} {v : Value} (h : St W bo bm g L bd v) (hb : Below W.heap.size W W1) : SAct W W1 bo bm g L L bd v v := ⟨h.later hb, Kp.of_below hb _, fun i hi => .inl hi⟩

/-- what one call on both owes, in the walk's words -/
def Owes (fo fd : Nat) (kind k : Int) (W W1 : World) (bo bm g : Nat) (L : List Ent) (bd : Nat) (v : Value) : Prop :=
  Calls Try.prog fo #[.pointer (some ⟨bo, 0, none⟩), .int .i64 k] W1.drew fun r w2 => r = .returned (.bool (ans kind k (L.map I.kp))) ∧ w2.cell? ⟨W.heap.size, 1, none⟩ = some (.int .i64 k) ∧
    Calls Try.prog fd #[.pointer (some ⟨bd, 0, none⟩), .int .i64 k] w2 fun r w3 => r = .returned (.bool (ans kind k (L.map I.kp))) ∧ w3.cell? ⟨W.heap.size, 1, none⟩ = some (.int .i64 k) ∧ ∃ L' v', SAct W w3 bo bm g L L' bd v v' ∧ L'.map I.kp = stp kind k (L.map I.kp)
theorem owes_of {fo fd : Nat} {kind k : Int} {W W1 : World} {bo bm g : Nat} {L : List Ent} {bd : Nat} {v : Value} (h : St W bo bm g L bd v) (hb : Below W.heap.size W W1) (hc : W1.cell? ⟨W.heap.size, 1, none⟩ = some (.int .i64 k)) (hlt : W.heap.size < W1.heap.size)
    (ho : ∀ W2, RO W2 bo bm g L → OCall fo kind W2 bo bm g L k) (hd : ∀ W2, RD W2 bd true v (L.map I.kp) → DCall fd kind W2 bd v (L.map I.kp) k) : Owes fo fd kind k W W1 bo bm g L bd v := by
  have hb' : Below W.heap.size W W1.drew := ⟨hb.os, hb.tape, hb.output, hb.size, hb.block⟩
  refine (ho _ (h.o.later hb')).mono ?_
  rintro r w2 ⟨rfl, L', ha, hA⟩
  have hRD2 : RD w2 bd true v (L.map I.kp) := (h.d.later hb').kept ha.kp fun i hi hf => fp_fpd h.o h.d i hf hi
  have hn1 : W.heap.size ∉ fp bo bm g L := fun hm => by have := h.o.lt _ hm; omega
  have hn2 : W.heap.size ∉ fpd bd v := fun hm => by have := h.d.lt _ hm; omega
  have c2 : w2.cell? ⟨W.heap.size, 1, none⟩ = some (.int .i64 k) := (World.cell?_of_block (ha.kp.block W.heap.size hlt hn1)).trans hc
  refine ⟨rfl, c2, (hd w2 hRD2).mono ?_⟩
  rintro r w3 ⟨rfl, v', hda⟩
  refine ⟨rfl, (World.cell?_of_block (hda.kp.block W.heap.size (Nat.lt_of_lt_of_le hlt ha.kp.size) hn2)).trans c2, L', v', SAct.make h hb' ha hda hA, hA⟩

set_option maxHeartbeats 8000000 in
theorem play_any {W : World} {bo bm g : Nat} {L : List Ent} {bd : Nat} {v : Value} (h : St W bo bm g L bd v) (kind k : Int) (hk : wfK k) (hl : L.length < 8796093022208) :
    Calls Try.prog 10 #[.pointer (some ⟨bo, 0, none⟩), .pointer (some ⟨bd, 0, none⟩), .agg #[.int .i64 kind, .int .i64 k]] W fun r W' => r = .returned (.bool true) ∧ ∃ L' v', SAct W W' bo bm g L L' bd v v' ∧ L'.map I.kp = stp kind k (L.map I.kp) := by
  have hbx := heap_alloc_new W (.cells #[.int .i64 kind, .int .i64 k] TAc)
  have hB1 : Below W.heap.size W (W.alloc (.cells #[.int .i64 kind, .int .i64 k] TAc)) := (Below.refl _ W).alloc (Nat.le_refl _) _
  have hs1 : W.heap.size < (W.alloc (.cells #[.int .i64 kind, .int .i64 k] TAc)).heap.size := by rw [World.size_alloc]; omega
  have x0 : (W.alloc (.cells #[.int .i64 kind, .int .i64 k] TAc)).cell? ⟨W.heap.size, 0, none⟩ = some (.int .i64 kind) := (cell_of hbx).trans rfl
  have x1 : (W.alloc (.cells #[.int .i64 kind, .int .i64 k] TAc)).cell? ⟨W.heap.size, 1, none⟩ = some (.int .i64 k) := (cell_of hbx).trans rfl
  have hml : L.length < maxLen := by unfold maxLen; omega
  have hmk : (L.map I.kp).length < 8796093022208 := by simpa using hl
  have O1 := owes_of (fo := 34) (fd := 16) (kind := 1) h hB1 x1 hs1 (fun W2 h2 => o_add h2 hk hml) (fun W2 h2 => d_add h2 k hmk)
  have O2 := owes_of (fo := 30) (fd := 18) (kind := 2) h hB1 x1 hs1 (fun W2 h2 => o_touch h2 hk) (fun W2 h2 => d_touch h2 k)
  have O3 := owes_of (fo := 33) (fd := 20) (kind := 3) h hB1 x1 hs1 (fun W2 h2 => o_drop h2 hk) (fun W2 h2 => d_drop h2 k)
  have O4 := owes_of (fo := 41) (fd := 22) (kind := 4) h hB1 x1 hs1 (fun W2 h2 => o_pin h2 hk) (fun W2 h2 => d_pin h2 k)
  have O5 := owes_of (fo := 43) (fd := 24) (kind := 5) h hB1 x1 hs1 (fun W2 h2 => o_unpin h2 hk) (fun W2 h2 => d_unpin h2 k)
  have HI : Hid (SAct W (W.alloc (.cells #[.int .i64 kind, .int .i64 k] TAc)) bo bm g L L bd v v) := SAct.idle h hB1
  unfold Owes at O1 O2 O3 O4 O5
  have bq : ∀ (w : World) (b : Bool), (binOp .eql 4 (.bool b) (.bool b)).run Try.prog w = .ok (.bool true) w := fun w b => by cases b <;> rfl
  clear h hbx hB1 hs1 hml hmk hl hk
  by_cases e1 : kind = 1
  · subst e1
    generalize ans 1 k (L.map I.kp) = ab at *
    clear O2 O3 O4 O5
    go_enter Try.func10, Try.ntmps10
    go_wp2
    go_region_held3 (fun w' => w'.cell? ⟨W.heap.size, 1, none⟩ = some (.int .i64 k)) (first | go_keep | exact hc2 | exact hc3) (first | (go_at_call 34; refine O1.mono ?_; rintro r w2 ⟨rfl, hc2, hn2⟩) | (go_at_call 16; refine hn2.mono ?_; rintro r w3 ⟨rfl, hc3, L', v', hS, hA⟩))
    go_wp2
    go_ret
    exact ⟨rfl, L', v', hS, hA⟩
  by_cases e2 : kind = 2
  · subst e2
    generalize ans 2 k (L.map I.kp) = ab at *
    clear O1 O3 O4 O5
    go_enter Try.func10, Try.ntmps10
    go_wp2
    go_region_held3 (fun w' => w'.cell? ⟨W.heap.size, 1, none⟩ = some (.int .i64 k)) (first | go_keep | exact hc2 | exact hc3) (first | (go_at_call 30; refine O2.mono ?_; rintro r w2 ⟨rfl, hc2, hn2⟩) | (go_at_call 18; refine hn2.mono ?_; rintro r w3 ⟨rfl, hc3, L', v', hS, hA⟩))
    go_wp2
    go_ret
    exact ⟨rfl, L', v', hS, hA⟩
  by_cases e3 : kind = 3
  · subst e3
    generalize ans 3 k (L.map I.kp) = ab at *
    clear O1 O2 O4 O5
    go_enter Try.func10, Try.ntmps10
    go_wp2
    go_region_held3 (fun w' => w'.cell? ⟨W.heap.size, 1, none⟩ = some (.int .i64 k)) (first | go_keep | exact hc2 | exact hc3) (first | (go_at_call 33; refine O3.mono ?_; rintro r w2 ⟨rfl, hc2, hn2⟩) | (go_at_call 20; refine hn2.mono ?_; rintro r w3 ⟨rfl, hc3, L', v', hS, hA⟩))
    go_wp2
    go_ret
    exact ⟨rfl, L', v', hS, hA⟩
  by_cases e4 : kind = 4
  · subst e4
    generalize ans 4 k (L.map I.kp) = ab at *
    clear O1 O2 O3 O5
    go_enter Try.func10, Try.ntmps10
    go_wp2
    go_region_held3 (fun w' => w'.cell? ⟨W.heap.size, 1, none⟩ = some (.int .i64 k)) (first | go_keep | exact hc2 | exact hc3) (first | (go_at_call 41; refine O4.mono ?_; rintro r w2 ⟨rfl, hc2, hn2⟩) | (go_at_call 22; refine hn2.mono ?_; rintro r w3 ⟨rfl, hc3, L', v', hS, hA⟩))
    go_wp2
    go_ret
    exact ⟨rfl, L', v', hS, hA⟩
  by_cases e5 : kind = 5
  · subst e5
    generalize ans 5 k (L.map I.kp) = ab at *
    clear O1 O2 O3 O4
    go_enter Try.func10, Try.ntmps10
    go_wp2
    go_region_held3 (fun w' => w'.cell? ⟨W.heap.size, 1, none⟩ = some (.int .i64 k)) (first | go_keep | exact hc2 | exact hc3) (first | (go_at_call 43; refine O5.mono ?_; rintro r w2 ⟨rfl, hc2, hn2⟩) | (go_at_call 24; refine hn2.mono ?_; rintro r w3 ⟨rfl, hc3, L', v', hS, hA⟩))
    go_wp2
    go_ret
    exact ⟨rfl, L', v', hS, hA⟩
  have f1 : (kind == 1) = false := by simpa using e1
  have f2 : (kind == 2) = false := by simpa using e2
  have f3 : (kind == 3) = false := by simpa using e3
  have f4 : (kind == 4) = false := by simpa using e4
  have f5 : (kind == 5) = false := by simpa using e5
  have HE : Hid (stp kind k (L.map I.kp) = L.map I.kp) := stp_other e1 e2 e3 e4 e5
  clear O1 O2 O3 O4 O5 e1 e2 e3 e4 e5
  go_enter Try.func10, Try.ntmps10
  go_wp2
  go_ret
  exact ⟨rfl, L, v, HI.out, HE.out.symm⟩
end Go.Proofs.Ytpchllepboolhaa.D
