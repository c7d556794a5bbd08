import Derived.Test.YtijafckdbhklmaaYMI
namespace Go.Proofs.Ytijafckdbhklmaa.I
open Go.RowKit Go.Sort Go.Shelf
attribute [local go_sem] Oper.semAt_some
set_option linter.unusedVariables false
set_option linter.unusedSimpArgs false
set_option maxRecDepth 100000

abbrev TMapP : TypeId := 26
abbrev TEach : TypeId := 91
theorem cells_ownS (Bx : Nat) (cs : Array Value) (t : TypeId) (B : Nat) : OwnFrom B (fun (_ : Unit) (W : World) => W.heap[Bx]? = some (.cells cs t (0, 0))) := fun s X Y row hs hg hrow => by
  refine (hg.block Bx (Array.getElem?_eq_some_iff.1 hs).1 (fun e => ?_)).trans hs
  obtain ⟨_, o, ho, hc⟩ := hrow Bx e.symm
  rw [hs] at ho; cases ho; simp [Obj.isCells] at hc
/-- what a call of a stretch may do: it keeps cells that came later, but for runs -/
def KeepsLate (n : Nat) (W W' : World) : Prop := ∀ k, n ≤ k → ∀ cur t fr, W.heap[k]? = some (.cells cur t fr) → t ≠ TRun → W'.heap[k]? = some (.cells cur t fr)
abbrev stOf (r s : Rn Int) : St := (s.lo, s.hi, r.v, s.v)
/-- what the body of a ranging side by side must keep -/
structure SideBy (w : World) (Bb bb : Nat) (vb : Value) (size : Int) (rb : List (Rn Int)) (fe : Nat) (caps : Array Value) (Kp : World → World → Prop) (Fine : Nat → World → Prop) (J Jx : List St → World → Prop) : Prop where
  row : KeepsRow Kp Fine
  kt : ∀ {A B C : World}, Kp A B → Kp B C → Kp A C
  kb : ∀ (W : World) (l : Nat) (o o' : Obj), W.heap[l]? = some o → o.isCells = false → Kp W (W.putObj l o')
  ka : ∀ (W : World) (o : Obj), Kp W (W.alloc o)
  ko : ∀ (W0 : World) (B : Nat), OwnFrom B (fun (_ : Unit) W => Kp W0 W)
  fo : ∀ (g : Nat) (B : Nat), OwnFrom B (fun (_ : Unit) W => Fine g W)
  f : ∀ l W0 W w1 k, J l W0 → Below W0.heap.size W0 W → Below W.heap.size W w1 → W.heap.size ≤ k → k < w1.heap.size → Fine k w1
  jo : ∀ B, w.heap.size ≤ B → OwnFrom B J
  jxo : ∀ B, w.heap.size ≤ B → OwnFrom B Jx
  jm : ∀ l W, J l W → MO W Bb bb vb size rb
  jb : ∀ l W, J l W → w.heap.size ≤ W.heap.size
  each : ∀ l lo hi x y W, J l W → Calls Try.prog fe (#[.int .i64 lo, .int .i64 hi, .int .i64 x, .int .i64 y] ++ caps) W fun e W' =>
    KeepsOthers W W' ∧ KeepsLate w.heap.size W W' ∧ ((e = .returned (.bool true) ∧ J (l ++ [(lo, hi, x, y)]) W' ∧ Kp W W') ∨ (e = .returned (.bool false) ∧ Jx (l ++ [(lo, hi, x, y)]) W'))

set_option maxHeartbeats 8000000 in
theorem side_any {w : World} {Ba ba Bb bb : Nat} {va vb : Value} {size : Int} {ra rb : List (Rn Int)} (ha : MO w Ba ba va size ra) {c0 : Value} {Kp : World → World → Prop} {Fine : Nat → World → Prop} {J Jx : List St → World → Prop}
    (H : SideBy w Bb bb vb size rb 41 #[c0] Kp Fine J Jx) (h0 : J [] w) :
    Calls Try.prog 40 #[.pointer (some ⟨ba, 0, none⟩), .pointer (some ⟨bb, 0, none⟩), .func (.func 41) #[] #[c0]] w fun e w' => (∃ v, e = .returned v) ∧ (J (side ra rb) w' ∨ ∃ l rest, side ra rb = l ++ rest ∧ Jx l w') := by
  have c1 : w.cell? ⟨ba, 1, none⟩ = some (.int .i64 size) := ha.c 1
  have hle : size ≤ 1099511627776 := ha.le
  obtain ⟨ys, hys⟩ := within_list ra (tiles_within (a := 0) (Int.le_refl 0) ha.tiles)
  refine (callsIn_wide (n := 8)).1 ?_
  have h40 : Fence.wide.fn 40 := trivial
  have h57 : Fence.wide.fn 21 := trivial
  have h67 : Fence.wide.fn 36 := trivial
  have hef : Fence.wide.fn 41 := trivial
  refine callsIn_of_wp_marks Try.func40 rfl h40 ?_ rfl
  simp only [Try.ntmps40, List.size_toArray, List.length_cons, List.length_nil, Nat.reduceAdd, Nat.reduceSub, Array.replicate_succ, Array.replicate_zero, List.push_toArray, List.append_toArray, List.nil_append, List.cons_append]
  have c1' : ((w.alloc (.cells #[.pointer (some ⟨bb, 0, none⟩)] TMapP)).alloc (.cells #[.func (.func 41) #[] #[c0]] TEach)).cell? ⟨ba, 1, none⟩ = some (.int .i64 size) := cell_later (((Below.refl _ w).alloc (Nat.le_refl _) _).alloc (by simp) _) c1
  gi_wp2_with (gi_at_call 21; refine (callsIn_wide.2 (runs_any _ _ _ _)).mono ?_; rintro e w' ⟨rfl, rfl⟩)
  obtain ⟨W0, hW0⟩ : ∃ W0, W0 = ((((w.alloc (.cells #[.pointer (some ⟨bb, 0, none⟩)] TMapP)).alloc (.cells #[.func (.func 41) #[] #[c0]] TEach)).alloc (.cells #[.pointer (some ⟨ba, 0, none⟩)] TMapP)).alloc (.cells #[.int .i64 0] 2)).alloc (.cells #[.int .i64 size] 2) := ⟨_, rfl⟩
  have hB0 : Below w.heap.size w W0 := by rw [hW0]; exact (((((Below.refl _ w).alloc (Nat.le_refl _) _).alloc (by simp) _).alloc (by simp; omega) _).alloc (by simp; omega) _).alloc (by simp; omega) _
  have hs0 : W0.heap.size = w.heap.size + 5 := by rw [hW0]; simp
  have bB : Boxed W0 w.heap.size TMapP (.pointer (some ⟨bb, 0, none⟩)) := by rw [hW0]; exact ((((Boxed.new w TMapP (.pointer (some ⟨bb, 0, none⟩))).alloc _).alloc _).alloc _).alloc _
  have bE : Boxed W0 (w.heap.size + 1) TEach (.func (.func 41) #[] #[c0]) := by
    have := Boxed.new (w.alloc (.cells #[.pointer (some ⟨bb, 0, none⟩)] TMapP)) TEach (.func (.func 41) #[] #[c0])
    rw [World.size_alloc] at this
    rw [hW0]; exact ((this.alloc _).alloc _).alloc _
  have bx1 : W0.cell? ⟨w.heap.size + 1 + 1, 0, none⟩ = some (.pointer (some ⟨ba, 0, none⟩)) := by
    have := Boxed.new ((w.alloc (.cells #[.pointer (some ⟨bb, 0, none⟩)] TMapP)).alloc (.cells #[.func (.func 41) #[] #[c0]] TEach)) TMapP (.pointer (some ⟨ba, 0, none⟩))
    rw [World.size_alloc, World.size_alloc] at this
    rw [hW0]; exact ((this.alloc _).alloc _).cell
  have bx2 : W0.cell? ⟨w.heap.size + 1 + 1 + 1, 0, none⟩ = some (.int .i64 0) := by
    have := Boxed.new (((w.alloc (.cells #[.pointer (some ⟨bb, 0, none⟩)] TMapP)).alloc (.cells #[.func (.func 41) #[] #[c0]] TEach)).alloc (.cells #[.pointer (some ⟨ba, 0, none⟩)] TMapP)) 2 (.int .i64 0)
    rw [World.size_alloc, World.size_alloc, World.size_alloc] at this
    rw [hW0]; exact (this.alloc _).cell
  have bx3 : W0.cell? ⟨w.heap.size + 1 + 1 + 2, 0, none⟩ = some (.int .i64 size) := by
    have := Boxed.new ((((w.alloc (.cells #[.pointer (some ⟨bb, 0, none⟩)] TMapP)).alloc (.cells #[.func (.func 41) #[] #[c0]] TEach)).alloc (.cells #[.pointer (some ⟨ba, 0, none⟩)] TMapP)).alloc (.cells #[.int .i64 0] 2)) 2 (.int .i64 size)
    rw [World.size_alloc, World.size_alloc, World.size_alloc, World.size_alloc] at this
    rw [hW0]; exact this.cell
  have J0 : J [] W0 := by
    have k := H.jo _ (Nat.le_refl w.heap.size)
    rw [hW0]; exact k.alloc _ (k.alloc _ (k.alloc _ (k.alloc _ (k.alloc _ h0))))
  have hseq := runs1_gen 7 (by omega) Subtype.val H.row (ha.later hB0) 0 size bx1 bx2 bx3 ys (by rw [hys, cutA_all ha.tiles]) (fun W w1 k hA hB hk hk2 => H.f [] W0 W w1 k J0 hA hB hk hk2)
  have HYS : Hid (ys.map Subtype.val = ra) := hys
  rw [← hW0]
  clear bx1 bx2 bx3 c1 c1' hys
  have ew : w.heap.size ≤ W0.heap.size := by omega
  have hJo : ∀ B, W0.heap.size ≤ B → OwnFrom B J := fun B hB => H.jo B (by omega)
  have hJxo : ∀ B, W0.heap.size ≤ B → OwnFrom B Jx := fun B hB => H.jxo B (by omega)
  refine wpIn_rangeFunc_ownH rfl (by omega) (gf := 36) (lb := #[.pointer (some ⟨w.heap.size + 1 + 1, 0, none⟩), .pointer (some ⟨w.heap.size + 1 + 1 + 1, 0, none⟩), .pointer (some ⟨w.heap.size + 1 + 1 + 2, 0, none⟩)]) rfl h67 (enters_of Try.func36 (by kernel_rfl) rfl)
    hseq H.kt (fun W l o o' _ h hc _ => H.kb W l o o' h hc) (Below.refl _ _) (fun _ => rfl)
    (fun pre W => (J (side (pre.map Subtype.val) rb) W ∧ Boxed W w.heap.size TMapP (.pointer (some ⟨bb, 0, none⟩))) ∧ Boxed W (w.heap.size + 1) TEach (.func (.func 41) #[] #[c0]))
    (fun c pre W => c = .ret ∧ ∃ l rest, side (pre.map Subtype.val) rb = l ++ rest ∧ Jx l W)
    (OwnFrom.and (OwnFrom.and (fun s X Y row hs hg hr => hJo _ (Nat.le_refl _) _ X Y row hs hg hr) (Own.from (boxed_own _ _ _) _)) (Own.from (boxed_own _ _ _) _))
    (fun c s X Y row hs hg hr => by
      obtain ⟨e, l, rest, e2, hj⟩ := hs
      exact ⟨e, l, rest, e2, hJxo _ (Nat.le_refl _) _ X Y row hj hg hr⟩)
    ⟨⟨J0, bB⟩, bE⟩
    (fun x a' W => ∃ Bx, (W.heap[Bx]? = some (.cells #[.int .i64 x.1.lo, .int .i64 x.1.hi, .int .i64 x.1.v] TRun (0, 0)) ∧ Fine Bx W) ∧ a' = { tmps := #[.pointer (some ⟨ba, 0, none⟩), .pointer (some ⟨bb, 0, none⟩), .func (.func 41) #[] #[c0], undef, .pointer (some ⟨w.heap.size, 0, none⟩), .pointer (some ⟨w.heap.size + 1, 0, none⟩), .pointer (some ⟨Bx, 0, none⟩), undef, .pointer (some ⟨ba, 0, none⟩), .pointer (some ⟨ba, 0, none⟩), .pointer (some ⟨ba, 0, none⟩), .pointer (some ⟨ba, 1, none⟩), .int .i64 size, .func (.func 36) #[] #[.pointer (some ⟨w.heap.size + 1 + 1, 0, none⟩), .pointer (some ⟨w.heap.size + 1 + 1 + 1, 0, none⟩), .pointer (some ⟨w.heap.size + 1 + 1 + 2, 0, none⟩)], .agg #[.int .i64 x.1.lo, .int .i64 x.1.hi, .int .i64 x.1.v], undef, undef, undef, undef, undef, undef, undef, undef, undef, undef, undef, undef, undef, undef, undef, undef, undef, undef], defers := [] })
    (fun x a' s X Y row hs hg hrow => by
      obtain ⟨Bx, ⟨hx, hf⟩, e⟩ := hs
      exact ⟨Bx, ⟨cells_ownS Bx _ _ _ () X Y row hx hg hrow, H.fo Bx _ () X Y row hf hg hrow⟩, e⟩)
    ?assign ?body ?done ?stop
  case assign =>
    rintro l pre x W K ⟨⟨hj, b1⟩, b2⟩ hK
    gi_wp2
    exact hK _ _ ((KeepsOthers.alloc _ _).from _) (H.ka _ _) ⟨⟨(hJo _ (Nat.le_refl _)).alloc _ hj, b1.alloc _⟩, b2.alloc _⟩ ⟨W.heap.size, ⟨heap_alloc_new W _, H.f _ W W _ _ hj (Below.refl _ _) ((Below.refl _ W).alloc (Nat.le_refl _) _) (Nat.le_refl _) (by simp)⟩, rfl⟩
  case body =>
    rintro l pre x a' W hl ⟨r, hr⟩ ⟨⟨hj, b1⟩, b2⟩ ⟨Bx, ⟨hx, hfx⟩, rfl⟩ hlt
    have cB := b1.cell
    have x0 : W.cell? ⟨Bx, 0, none⟩ = some (.int .i64 x.1.lo) := by unfold World.cell?; simp only [hx]; rfl
    have x1 : W.cell? ⟨Bx, 1, none⟩ = some (.int .i64 x.1.hi) := by unfold World.cell?; simp only [hx]; rfl
    have hMb := H.jm _ _ hj
    have hsW := b2.lt
    gi_wp2_with (gi_at_call 21; refine (CallsIn.inRound l (callsIn_wide.2 (runs_any _ _ _ _))).mono ?_; rintro e w' ⟨rfl, rfl⟩)
    obtain ⟨W1, hW1⟩ : ∃ W1, W1 = ((W.alloc (.cells #[.pointer (some ⟨bb, 0, none⟩)] TMapP)).alloc (.cells #[.int .i64 x.1.lo] 2)).alloc (.cells #[.int .i64 x.1.hi] 2) := ⟨_, rfl⟩
    have hB1 : Below W.heap.size W W1 := by rw [hW1]; exact (((Below.refl _ W).alloc (Nat.le_refl _) _).alloc (by simp) _).alloc (by simp; omega) _
    have hs1 : W1.heap.size = W.heap.size + 3 := by rw [hW1]; simp
    have y1 : W1.cell? ⟨W.heap.size, 0, none⟩ = some (.pointer (some ⟨bb, 0, none⟩)) := by
      rw [hW1]; exact (((Boxed.new W TMapP (.pointer (some ⟨bb, 0, none⟩))).alloc _).alloc _).cell
    have y2 : W1.cell? ⟨W.heap.size + 1, 0, none⟩ = some (.int .i64 x.1.lo) := by
      have := Boxed.new (W.alloc (.cells #[.pointer (some ⟨bb, 0, none⟩)] TMapP)) 2 (.int .i64 x.1.lo)
      rw [World.size_alloc] at this
      rw [hW1]; exact (this.alloc _).cell
    have y3 : W1.cell? ⟨W.heap.size + 2, 0, none⟩ = some (.int .i64 x.1.hi) := by
      have := Boxed.new ((W.alloc (.cells #[.pointer (some ⟨bb, 0, none⟩)] TMapP)).alloc (.cells #[.int .i64 x.1.lo] 2)) 2 (.int .i64 x.1.hi)
      rw [World.size_alloc, World.size_alloc] at this
      rw [hW1]; exact this.cell
    have kJ := hJo W0.heap.size (Nat.le_refl _)
    have hj1 : J (side (pre.map Subtype.val) rb) W1 := by rw [hW1]; exact kJ.alloc _ (kJ.alloc _ (kJ.alloc _ hj))
    have hk1 : Kp W W1 := by rw [hW1]; exact H.kt (H.kt (H.ka _ _) (H.ka _ _)) (H.ka _ _)
    have hf1 : KeepsFrom W0.heap.size W W1 := by rw [hW1]; exact (((KeepsOthers.alloc _ _).from _).trans ((KeepsOthers.alloc _ _).from _)).trans ((KeepsOthers.alloc _ _).from _)
    have hx1 : W1.heap[Bx]? = some (.cells #[.int .i64 x.1.lo, .int .i64 x.1.hi, .int .i64 x.1.v] TRun (0, 0)) := (hB1.block Bx (Array.getElem?_eq_some_iff.1 hx).1).trans hx
    have hfx1 : Fine Bx W1 := by rw [hW1]; exact H.row.a _ (H.row.a _ (H.row.a _ hfx))
    have bB1 : Boxed W1 w.heap.size TMapP (.pointer (some ⟨bb, 0, none⟩)) := by rw [hW1]; exact ((b1.alloc _).alloc _).alloc _
    have bE1 : Boxed W1 (w.heap.size + 1) TEach (.func (.func 41) #[] #[c0]) := by rw [hW1]; exact ((b2.alloc _).alloc _).alloc _
    have hr1 : W1.heap[l]? = some (.loop r) := (hB1.block l (Array.getElem?_eq_some_iff.1 hr).1).trans hr
    have hseq2 := runs1_gen 5 (by omega) id H.row (hMb.later hB1) x.1.lo x.1.hi y1 y2 y3 (cut rb x.1.lo x.1.hi) (by rw [cutA_within x.2, List.map_id]) (fun W' w1 k hA hB hk hk2 => H.f _ W1 W' w1 k hj1 hA hB hk hk2)
    have HCS : Hid (strs rb x.1 = (cut rb x.1.lo x.1.hi).map (stOf x.1)) := rfl
    rw [← hW1]
    clear y1 y2 y3 x0 x1 cB hMb
    refine wpIn_rangeFunc_ownN (l₀ := l) (r₀ := r) rfl hr1 (by omega) (gf := 36) (lb := #[.pointer (some ⟨W.heap.size, 0, none⟩), .pointer (some ⟨W.heap.size + 1, 0, none⟩), .pointer (some ⟨W.heap.size + 2, 0, none⟩)]) rfl h67 (enters_of Try.func36 (by kernel_rfl) rfl)
      (hseq2.inRound l) H.kt (fun W l o o' _ h hc _ => H.kb W l o o' h hc) (Below.refl _ _) (fun _ => rfl)
      (fun pre' W' => ((((J (side (pre.map Subtype.val) rb ++ pre'.map (stOf x.1)) W' ∧ Boxed W' w.heap.size TMapP (.pointer (some ⟨bb, 0, none⟩))) ∧ Boxed W' (w.heap.size + 1) TEach (.func (.func 41) #[] #[c0])) ∧ (W'.heap[Bx]? = some (.cells #[.int .i64 x.1.lo, .int .i64 x.1.hi, .int .i64 x.1.v] TRun (0, 0)) ∧ Fine Bx W')) ∧ (Kp W W' ∧ KeepsFrom W0.heap.size W W')))
      (fun c pre' W' => (c = .ret ∧ ∃ l rest, side (pre.map Subtype.val) rb ++ pre'.map (stOf x.1) = l ++ rest ∧ Jx l W') ∧ KeepsFrom W0.heap.size W W')
      (OwnFrom.and (OwnFrom.and (OwnFrom.and (OwnFrom.and (fun s X Y row hs hg hr => hJo _ (by omega) _ X Y row hs hg hr) (Own.from (boxed_own _ _ _) _)) (Own.from (boxed_own _ _ _) _)) (OwnFrom.and (fun s X Y row hs hg hr => cells_ownS Bx _ _ _ () X Y row hs hg hr) (fun s X Y row hs hg hr => H.fo Bx _ () X Y row hs hg hr))) (OwnFrom.and (fun s X Y row hs hg hr => H.ko W _ () X Y row hs hg hr) (ownFrom_keepsFrom (by omega))))
      (fun c => OwnFrom.and (fun s X Y row hs hg hr => by
        obtain ⟨e, l, rest, e2, hj⟩ := hs
        exact ⟨e, l, rest, e2, hJxo _ (by omega) _ X Y row hj hg hr⟩) (ownFrom_keepsFrom (by omega)))
      ⟨⟨⟨⟨by simpa using hj1, bB1⟩, bE1⟩, hx1, hfx1⟩, hk1, hf1⟩
      (fun y a'' W' => ∃ By, W'.heap[By]? = some (.cells #[.int .i64 y.lo, .int .i64 y.hi, .int .i64 y.v] TRun (0, 0)) ∧ a'' = { tmps := #[.pointer (some ⟨ba, 0, none⟩), .pointer (some ⟨bb, 0, none⟩), .func (.func 41) #[] #[c0], undef, .pointer (some ⟨w.heap.size, 0, none⟩), .pointer (some ⟨w.heap.size + 1, 0, none⟩), .pointer (some ⟨Bx, 0, none⟩), .pointer (some ⟨By, 0, none⟩), .pointer (some ⟨ba, 0, none⟩), .pointer (some ⟨ba, 0, none⟩), .pointer (some ⟨ba, 0, none⟩), .pointer (some ⟨ba, 1, none⟩), .int .i64 size, .func (.func 36) #[] #[.pointer (some ⟨w.heap.size + 1 + 1, 0, none⟩), .pointer (some ⟨w.heap.size + 1 + 1 + 1, 0, none⟩), .pointer (some ⟨w.heap.size + 1 + 1 + 2, 0, none⟩)], .agg #[.int .i64 x.1.lo, .int .i64 x.1.hi, .int .i64 x.1.v], .pointer (some ⟨bb, 0, none⟩), .pointer (some ⟨Bx, 0, none⟩), .int .i64 x.1.lo, .pointer (some ⟨Bx, 1, none⟩), .int .i64 x.1.hi, .func (.func 36) #[] #[.pointer (some ⟨W.heap.size, 0, none⟩), .pointer (some ⟨W.heap.size + 1, 0, none⟩), .pointer (some ⟨W.heap.size + 2, 0, none⟩)], .agg #[.int .i64 y.lo, .int .i64 y.hi, .int .i64 y.v], undef, undef, undef, undef, undef, undef, undef, undef, undef, undef, undef], defers := [] })
      (fun y a'' s X Y row hs hg hrow => by
        obtain ⟨By, hy, e⟩ := hs
        exact ⟨By, cells_ownS By _ _ _ () X Y row hy hg hrow, e⟩)
      ?assign2 ?body2 ?done2 ?stop2
    case assign2 =>
      rintro l2 pre' y W' K ⟨⟨⟨⟨hj2, b12⟩, b22⟩, hx2, hf2⟩, hkp, hkf⟩ hK
      gi_wp2
      exact hK _ _ ((KeepsOthers.alloc _ _).from _) (H.ka _ _) ⟨⟨⟨⟨kJ.alloc _ hj2, b12.alloc _⟩, b22.alloc _⟩, (Below.heap_alloc W' _ Bx (Array.getElem?_eq_some_iff.1 hx2).1).trans hx2, H.row.a _ hf2⟩, H.kt hkp (H.ka _ _), hkf.trans ((KeepsOthers.alloc _ _).from _)⟩ ⟨W'.heap.size, heap_alloc_new W' _, rfl⟩
    case body2 =>
      rintro l2 pre' y a'' W' _ _ ⟨⟨⟨⟨hj2, b12⟩, b22⟩, hx2, hf2⟩, hkp, hkf⟩ ⟨By, hy2, rfl⟩ _
      have cE := b22.cell
      have q2 : W'.cell? ⟨Bx, 2, none⟩ = some (.int .i64 x.1.v) := by unfold World.cell?; simp only [hx2]; rfl
      have z0 : W'.cell? ⟨By, 0, none⟩ = some (.int .i64 y.lo) := by unfold World.cell?; simp only [hy2]; rfl
      have z1 : W'.cell? ⟨By, 1, none⟩ = some (.int .i64 y.hi) := by unfold World.cell?; simp only [hy2]; rfl
      have z2 : W'.cell? ⟨By, 2, none⟩ = some (.int .i64 y.v) := by unfold World.cell?; simp only [hy2]; rfl
      have hE := H.each _ y.lo y.hi x.1.v y.v W' hj2
      have em : side (pre.map Subtype.val) rb ++ (pre' ++ [y]).map (stOf x.1) = (side (pre.map Subtype.val) rb ++ pre'.map (stOf x.1)) ++ [(y.lo, y.hi, x.1.v, y.v)] := by simp
      have HEM : Hid (side (pre.map Subtype.val) rb ++ (pre' ++ [y]).map (stOf x.1) = (side (pre.map Subtype.val) rb ++ pre'.map (stOf x.1)) ++ [(y.lo, y.hi, x.1.v, y.v)]) := em
      clear em
      simp only [List.append_toArray, List.cons_append, List.nil_append] at hE
      gi_wp2_with (gi_at_call 41; refine (CallsIn.inRound l2 (CallsIn.inRound l (callsIn_wide.2 hE))).mono ?_; rintro e W3 ⟨ko, kl, (⟨rfl, hj3, hk3⟩ | ⟨rfl, hjx3⟩)⟩)
      · obtain ⟨hx3, hf3⟩ := H.row.k hk3 hf2 hx2
        exact ⟨ko.from _, hk3, ⟨⟨⟨⟨by rw [HEM.out]; exact hj3, kl _ (Nat.le_refl _) _ _ _ b12 (by decide)⟩, kl _ (by omega) _ _ _ b22 (by decide)⟩, hx3, hf3⟩, H.kt hkp hk3, hkf.trans (ko.from _)⟩⟩
      · exact ⟨ko.from _, ⟨rfl, _, [], by rw [HEM.out, List.append_nil], hjx3⟩, hkf.trans (ko.from _)⟩
    case done2 =>
      rintro ys' W' rfl ⟨⟨⟨⟨hj2, b12⟩, b22⟩, hx2, hf2⟩, hkp, hkf⟩
      refine ⟨hkf, hkp, ⟨⟨?_, b12⟩, b22⟩⟩
      rw [List.map_append, List.map_cons, List.map_nil, side_snoc, HCS.out]
      exact hj2
    case stop2 =>
      rintro c pre' W' ⟨rest, hrest⟩ ⟨⟨rfl, l', rest', e', hjx⟩, hkf⟩
      gi_wp2
      refine ⟨hkf, rfl, l', rest' ++ rest.map (stOf x.1), ?_, hjx⟩
      rw [List.map_append, List.map_cons, List.map_nil, side_snoc, HCS.out, hrest, List.map_append, ← List.append_assoc, e', List.append_assoc]
  case done =>
    rintro D zs W hD rfl ⟨⟨hj, b1⟩, b2⟩ hK
    gi_wp2
    refine ⟨by simp, .inl ⟨_, _, rfl, run_takeDeferred hK, ?_⟩⟩
    refine ⟨_, results_none rfl _ _ _, ⟨_, rfl⟩, .inl ?_⟩
    rw [HYS.out] at hj
    exact (hJo _ (Nat.le_refl _)).putObj _ hj hD hK rfl
  case stop =>
    rintro D c pre W hD ⟨rest, hrest⟩ ⟨rfl, l', rest', e', hjx⟩ hK
    gi_wp2
    refine ⟨by simp, .inl ⟨_, _, rfl, run_takeDeferred hK, ?_⟩⟩
    refine ⟨_, results_none rfl _ _ _, ⟨_, rfl⟩, .inr ⟨l', rest' ++ side (rest.map Subtype.val) rb, ?_, (hJxo _ (Nat.le_refl _)).putObj _ hjx hD hK rfl⟩⟩
    rw [← HYS.out, hrest, List.map_append, side_append, e', List.append_assoc]
end Go.Proofs.Ytijafckdbhklmaa.I
