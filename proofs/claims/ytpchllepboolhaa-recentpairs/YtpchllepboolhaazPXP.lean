import Derived.Test.YtpchllepboolhaaQ25
import Derived.Test.YtpchllepboolhaaQ28
import Derived.Test.YtpchllepboolhaazSB
import Derived.Test.YtpchllepboolhaaSQ
namespace Go.Proofs.Ytpchllepboolhaa.P
open Go.RowKit Go.Proofs.Ytpchllepboolhaa.D
open Go.Proofs.Ytpchllepboolhaa.I (ans)
attribute [local go_sem] Oper.semAt_some
set_option linter.unusedVariables false
set_option linter.unusedSimpArgs false
set_option maxRecDepth 100000

theorem nodup_in {α : Type} [DecidableEq α] : ∀ {l ks : List α}, l.Nodup → (∀ x ∈ l, x ∈ ks) → l.length ≤ ks.length
  | [], _, _, _ => by simp
  | x :: l, ks, hn, hs => by
    rw [List.nodup_cons] at hn
    have hx := hs x (by simp)
    have ih := nodup_in (ks := ks.erase x) hn.2 (fun y hy => (List.mem_erase_of_ne (fun (e : y = x) => hn.1 (by rw [← e]; exact hy))).2 (hs y (by simp [hy])))
    rw [List.length_erase_of_mem hx] at ih
    have : 0 < ks.length := List.length_pos_of_mem hx
    simp only [List.length_cons]
    omega
theorem Sg.len {w W : World} {bo bm g bd : Nat} {ks : List PK} {L : List Ent} {v : Value} {A A' : List It} (h : Sg w W bo bm g bd ks L v A A') : L.length ≤ ks.length := by
  have h1 := nodup_in h.o.kd (ks := ks) (fun k hk => by
    obtain ⟨e, he, rfl⟩ := List.mem_map.1 hk
    have hm : kpP e ∈ A.map (itP ks) := by rw [← h.r.m]; exact List.mem_map.2 ⟨e, he, rfl⟩
    obtain ⟨x, hx, e1⟩ := List.mem_map.1 hm
    have e2 : kat ks x.1 = e.key := congrArg Prod.fst e1
    have hf := h.r.f x hx
    rw [← e2]
    unfold kat
    exact List.mem_of_getElem? (getD_some hf.hi))
  simpa using h1
theorem Sg.start {w w0 : World} {bo bm g : Nat} (ks : List PK) (h0 : RO w0 bo bm g []) (hb0 : Below w.heap.size w w0) (hf0 : ∀ i ∈ fp bo bm g [], w.heap.size ≤ i) : Sg w (w0.alloc (.cells #[.bool true, .slice none 0 0] TDo)) bo bm g w0.heap.size ks [] (.slice none 0 0) [] [] := by
  have hB : Below w0.heap.size w0 (w0.alloc (.cells #[.bool true, .slice none 0 0] TDo)) := (Below.refl _ w0).alloc (Nat.le_refl _) _
  refine ⟨h0.later hB, ⟨heap_alloc_new w0 _, World.ownsRow_nil _ _ _ _, by simp, by simp⟩, Rl.nil ks, hb0.trans (hB.mono hb0.size), fun i hi => ?_⟩
  rcases List.mem_append.1 hi with hi | hi
  · exact hf0 i hi
  · simp [fpd, Value.ownBlock] at hi
    rw [hi]; exact hb0.size

/-- a key's box -/
def KBox (W : World) (q : Nat) (p : PK) : Prop := W.heap[q]? = some (.cells #[.int .i64 p.1.1, .string p.1.2] TKey (0, 0))
theorem KBox.c0 {W : World} {q : Nat} {p : PK} (h : KBox W q p) : W.cell? ⟨q, 0, none⟩ = some (.int .i64 p.1.1) := (cell_of h).trans rfl
theorem KBox.c1 {W : World} {q : Nat} {p : PK} (h : KBox W q p) : W.cell? ⟨q, 1, none⟩ = some (.string p.1.2) := (cell_of h).trans rfl
/-- both are asked whether they have the key -/
def Has4 (w1 : World) (bo bm g bd : Nat) (ks : List PK) (p : PK) (n : Int) (W : World) : Prop :=
  Calls Try.prog 25 #[.pointer (some ⟨bo, 0, none⟩), .agg #[.int .i64 p.1.1, .string p.1.2]] W fun r w5 => ∃ hb, r = .returned (.bool hb) ∧
    Calls Try.prog 26 #[.pointer (some ⟨bd, 0, none⟩), .int .i64 n] w5 fun r w6 => r = .returned (.bool hb) ∧ ∃ L v A, Sg w1 w6 bo bm g bd ks L v A A
theorem has4 {w1 W : World} {bo bm g bd : Nat} {ks : List PK} {L : List Ent} {v : Value} {A : List It} {n : Int} {p : PK} (h : Sg w1 W bo bm g bd ks L v A A) (hn : Fst ks n) (hp : p = kat ks n) : Has4 w1 bo bm g bd ks p n W := by
  unfold Has4
  have h1 := o_has h.o h.r hn
  rw [← hp] at h1
  refine h1.mono ?_
  rintro r w5 ⟨rfl, hb⟩
  have h5 := h.later hb
  refine ⟨_, rfl, (d_has h5.d n).mono ?_⟩
  rintro r w6 ⟨rfl, rfl⟩
  exact ⟨rfl, _, _, _, h5⟩
/-- both are changed, then asked -/
def Chg (fo fd : Nat) (w1 : World) (bo bm g bd : Nat) (ks : List PK) (p : PK) (n : Int) (q : Nat) (W : World) : Prop :=
  Calls Try.prog fo #[.pointer (some ⟨bo, 0, none⟩), .agg #[.int .i64 p.1.1, .string p.1.2]] W fun r w3 => ∃ ab, r = .returned (.bool ab) ∧
    Calls Try.prog fd #[.pointer (some ⟨bd, 0, none⟩), .int .i64 n] w3 fun r w4 => r = .returned (.bool ab) ∧ KBox w4 q p ∧ Has4 w1 bo bm g bd ks p n w4
theorem chg {fo fd : Nat} {kind : Int} {w1 W : World} {bo bm g bd : Nat} {ks : List PK} {L : List Ent} {v : Value} {A : List It} {n : Int} {p : PK} {q : Nat} (h : Sg w1 W bo bm g bd ks L v A A) (hn : Fst ks n) (hp : p = kat ks n)
    (hq : KBox W q p) (hqn : q ∉ fp bo bm g L ++ fpd bd v) (ho : OCall fo kind W bo bm g L ks A n) (hd : ∀ W', RD W' bd true v A → DCall fd kind W' bd v A n) : Chg fo fd w1 bo bm g bd ks p n q W := by
  unfold Chg
  have hlt : q < W.heap.size := (Array.getElem?_eq_some_iff.1 hq).1
  have h1 := h.callO ho hlt hqn
  rw [← hp] at h1
  refine h1.mono ?_
  rintro r w3 ⟨rfl, hq3, hs3, L', h3, hqn3⟩
  refine ⟨_, rfl, (h3.callD (hd w3 h3.d) (by omega) hqn3).mono ?_⟩
  rintro r w4 ⟨rfl, hq4, hs4, v', h4, hqn4⟩
  exact ⟨rfl, hq4.trans (hq3.trans hq), has4 h4 hn hp⟩

/-- rows of keys are kept -/
def KpK (W W' : World) : Prop := ∀ (k : Nat) (cur : Array Value) (fr : Nat × Nat), W.heap[k]? = some (.cells cur TKey fr) → W'.heap[k]? = some (.cells cur TKey fr)
theorem KpK.trans {A B C : World} (h : KpK A B) (k : KpK B C) : KpK A C := fun i cur fr hi => k i cur fr (h i cur fr hi)
theorem kpK_b {B : Nat} (W : World) (l : Nat) (o o' : Obj) (_ : B ≤ l) (h : W.heap[l]? = some o) (hc : o.isCells = false) (_ : o.isWalk = false) : KpK W (W.putObj l o') := fun i cur fr hi => by
  have hne : i ≠ l := by
    rintro rfl
    rw [h] at hi; cases hi; cases hc
  exact (World.putObj_heap_other hne).trans hi
theorem KpK.of_kp {X Y : World} {F : List Nat} (h : I.Kp X Y F) (hF : ∀ i ∈ F, ∀ cur fr, X.heap[i]? ≠ some (.cells cur TKey fr)) : KpK X Y := fun i cur fr hi =>
  (h.block i (Array.getElem?_eq_some_iff.1 hi).1 fun hf => hF i hf cur fr hi).trans hi
theorem kpK_row : A.KeepsRow KpK (fun _ _ => True) := ⟨fun h _ hc => ⟨h _ _ _ hc, trivial⟩⟩
theorem picked_all (L : List Ent) : A.picked L = L.map (·.key) := by
  unfold A.picked
  have h : L.filter A.sel = L := List.filter_eq_self.2 (fun _ _ => rfl)
  rw [h]
theorem cells_own (Bx : Nat) (cs : Array Value) (t : TypeId) (B : Nat) : OwnFrom B (fun (_ : Unit) (W : World) => W.heap[Bx]? = some (.cells cs t (0, 0))) := fun s X Y row hs hg hrow => by
  refine (hg.block Bx (Array.getElem?_eq_some_iff.1 hs).1 (fun e => ?_)).trans hs
  obtain ⟨_, o, ho, hc⟩ := hrow Bx e.symm
  rw [hs] at ho; cases ho; simp [Obj.isCells] at hc
theorem kp_drewN (W : World) (q : Nat) : I.Kp W (W.drewN q) [] := ⟨rfl, rfl, rfl, Nat.le_refl _, fun _ _ _ => rfl⟩
theorem rl_keys {ks : List PK} {L : List Ent} {A : List It} (h : Rl ks L A) : L.map (·.key) = (keysOf A).map (kat ks) := by
  have h1 := congrArg (List.map Prod.fst) h.m
  simp only [List.map_map] at h1
  unfold keysOf
  rw [List.map_map]
  exact h1

set_option maxHeartbeats 8000000 in
theorem lawPairs_any (ka ao : Option Addr) (km kc m c : Nat) (ks : List PK) (l : List Ac) (w : World) (HKM : Hid (km = ks.length)) (hkl : km * 24 ≤ 140737488355328) (HKR : Hid (km = 0 ∨ ∃ b off, ka = some ⟨b, off, none⟩ ∧ KRow w b off ks)) (HM : Hid (m = l.length)) (hl : m ≤ 8796093022208) (HA : Hid (ARow w ao l)) :
    Calls Try.prog 4 #[.slice ka km kc, .slice ao m c] w fun e w' => e = .returned (.bool true) ∧ Below w.heap.size w w' := by
  refine (callsIn_wide (n := 4)).1 ?_
  have f0 : Fence.wide.fn 4 := trivial
  have f1 : Fence.wide.fn 13 := trivial
  have f2 : Fence.wide.fn 14 := trivial
  have f15 : Fence.wide.fn 15 := trivial
  have f17 : Fence.wide.fn 17 := trivial
  have f19 : Fence.wide.fn 19 := trivial
  have f21 : Fence.wide.fn 21 := trivial
  have f23 : Fence.wide.fn 23 := trivial
  have f25 : Fence.wide.fn 25 := trivial
  have f16 : Fence.wide.fn 16 := trivial
  have f18 : Fence.wide.fn 18 := trivial
  have f20 : Fence.wide.fn 20 := trivial
  have f22 : Fence.wide.fn 22 := trivial
  have f24 : Fence.wide.fn 24 := trivial
  have f26 : Fence.wide.fn 26 := trivial
  refine callsIn_of_wp_marks Try.func4 rfl f0 ?_ rfl
  simp only [Try.ntmps4, List.size_toArray, List.length_cons, List.length_nil, Nat.reduceAdd, Nat.reduceSub, Array.replicate_succ, Array.replicate_zero, List.push_toArray, List.append_toArray, List.nil_append, List.cons_append]
  gi_wp2_with (gi_at_call 13; refine (callsIn_wide.2 (new_any _)).mono ?_; rintro e w0 ⟨bo, bm, g, rfl, h0, hb0, hf0⟩)
  obtain ⟨w1, hw1⟩ : ∃ w1, w1 = ((w.alloc (Obj.cells #[Value.slice ka km kc] 35)).alloc (Obj.cells #[Value.bool false] 4)) := ⟨_, rfl⟩
  rw [← hw1] at hb0 hf0
  have hB1 : Below w.heap.size w w1 := by rw [hw1]; exact (((Below.refl _ w).alloc (Nat.le_refl _) _).alloc (by simp) _)
  have hs1 : w1.heap.size = w.heap.size + 2 := by rw [hw1]; simp
  have bK : Boxed w1 w.heap.size 35 (.slice ka km kc) := by rw [hw1]; exact (Boxed.new w _ _).alloc _
  have bR : Boxed w1 (w.heap.size + 1) 4 (.bool false) := by
    have := Boxed.new (w.alloc (Obj.cells #[Value.slice ka km kc] 35)) 4 (.bool false)
    rw [World.size_alloc] at this
    rw [hw1]; exact this
  have H0 : Hid (Sg w1 (w0.alloc (.cells #[.bool true, .slice none 0 0] TDo)) bo bm g w0.heap.size ks [] (.slice none 0 0) [] []) := Sg.start ks h0 hb0 hf0
  have HBK : Hid (∀ W, Below w1.heap.size w1 W → Boxed W w.heap.size 35 (.slice ka km kc) ∧ Boxed W (w.heap.size + 1) 4 (.bool false)) := fun W hW => ⟨(hW.block _ (by omega)).trans bK, (hW.block _ (by omega)).trans bR⟩
  have HB1 : Hid (Below w.heap.size w w1) := hB1
  have HS1 : Hid (w1.heap.size = w.heap.size + 2) := hs1
  have HBw : Hid (∀ W, Below w1.heap.size w1 W → Below w.heap.size w W) := fun W hW => hB1.trans (hW.mono hB1.size)
  clear h0 hb0 hf0 hw1 hB1 hs1 bK bR
  obtain ⟨bd, hbd⟩ : ∃ bd, bd = w0.heap.size := ⟨_, rfl⟩
  rw [← hbd] at H0 ⊢
  clear hbd
  have bq : ∀ (w : World) (b : Bool), (binOp .eql 4 (.bool b) (.bool b)).run Try.prog w = .ok (.bool true) w := fun w b => by cases b <;> rfl
  have bn : ∀ (w : World) (b : Bool), (binOp .neq 4 (.bool b) (.bool b)).run Try.prog w = .ok (.bool false) w := fun w b => by cases b <;> rfl
  gi_loopw [7] (fun i wr => ∃ (k : Nat), k ≤ m ∧ i = .int .i64 k ∧ Hid (∃ L v A, Sg w1 wr bo bm g bd ks L v A A)) (fun i _ => m - (intOf i).toNat)
  case atStart => exact ⟨0, Nat.zero_le _, rfl, _, _, _, H0.out⟩
  case round =>
    obtain ⟨k, hk, rfl, HK⟩ := hrel
    by_cases hgo : k < m ∧ 0 < km
    · obtain ⟨hlt, hkm⟩ := hgo
      obtain ⟨L, v, A, hS⟩ := HK.out
      obtain ⟨x, hx⟩ : ∃ x, l[k]? = some x := ⟨_, List.getElem?_eq_getElem (by have := HM.out; omega)⟩
      obtain ⟨b, off, rfl, c0, c1⟩ := HA.out.c _ _ hx
      obtain ⟨kb, koff, rfl, hkr⟩ := HKR.out.resolve_left (by omega)
      have HC : Hid (∀ W, Below w1.heap.size w1 W → W.cell? ⟨b, off + k * 2, none⟩ = some (.int .i64 x.1) ∧ W.cell? ⟨b, off + k * 2 + 1, none⟩ = some (.int .i64 x.2) ∧ W.cell? ⟨w.heap.size, 0, none⟩ = some (.slice (some ⟨kb, koff, none⟩) km kc)) := fun W hW => ⟨cell_later (HBw.out W hW) c0, cell_later (HBw.out W hW) c1, (HBK.out W hW).1.cell⟩
      have hcr := HC.out wr hS.b
      have hcr0 := hcr.1
      have hcr1 := hcr.2.1
      have hcrk := hcr.2.2
      have d1 : (k : Int) < (m : Int) := by omega
      have d2 : (0 : Int) < (km : Int) := by omega
      have HS : Hid (Sg w1 wr bo bm g bd ks L v A A) := hS
      have HPl : Hid (Calls Try.prog 14 #[.slice (some ⟨kb, koff, none⟩) km kc, .int .i64 x.2] wr.drew fun r w' => ∃ i : Nat, r = .returned (.int .i64 i) ∧ Fst ks i ∧ Sg w1 w' bo bm g bd ks L v A A) := by
        have hbd : Below wr.heap.size wr wr.drew := ⟨rfl, rfl, rfl, Nat.le_refl _, fun _ _ => rfl⟩
        have hSd := hS.later hbd
        refine (place_any (hkr.later (HBw.out _ hSd.b)) HKM hkm (by omega)).mono ?_
        rintro r w' ⟨i, h1, h2, h3⟩
        exact ⟨i, h1, h2, hSd.later h3⟩
      have HKr : Hid (KRow w kb koff ks) := hkr
      have HBr : Hid (Below w1.heap.size w1 wr) := hS.b
      clear c0 c1 hx hcr hS hkr HK
      gi_wp2
      refine wpIn_wide.2 ?_
      go_region_held3 (fun w' => w'.cell? ⟨w.heap.size, 0, none⟩ = some (.slice (some ⟨kb, koff, none⟩) km kc) ∧ w'.cell? ⟨b, off + k * 2 + 1, none⟩ = some (.int .i64 x.2)) (first | go_keep | exact ⟨(HC.out _ HS2.out.b).2.2, (HC.out _ HS2.out.b).2.1⟩) ((go_at_call 14; refine HPl.out.mono ?_; rintro e w2 ⟨i, rfl, hi, hs2⟩; have HS2 : Hid (Sg w1 w2 bo bm g bd ks L v A A) := hs2; clear hs2))
      obtain ⟨p, hp⟩ : ∃ p, p = kat ks i := ⟨_, rfl⟩
      have hkc := (HKr.out.later (HBw.out w2 HS2.out.b)).c i p (by rw [hp]; exact getD_some (by have := hi.hi; simpa using this))
      obtain ⟨kc0, kc1⟩ := hkc
      have hcb := (HC.out _ HS2.out.b).2.2
      have hik : (i : Int) < (km : Int) := by have := hi.hi; have := HKM.out; simp at *; omega
      have HP : Hid (p = kat ks i) := hp
      have HI : Hid (Fst ks i) := hi
      clear hi hp
      have hb3 : Below w2.heap.size w2 (w2.alloc (.cells #[.int .i64 p.1.1, .string p.1.2] TKey)) := (Below.refl _ w2).alloc (Nat.le_refl _) _
      have HS3 : Hid (Sg w1 (w2.alloc (.cells #[.int .i64 p.1.1, .string p.1.2] TKey)) bo bm g bd ks L v A A) := HS2.out.later hb3
      have HX3 : Hid (KBox (w2.alloc (.cells #[.int .i64 p.1.1, .string p.1.2] TKey)) w2.heap.size p) := heap_alloc_new w2 _
      have x30 := HX3.out.c0
      have x31 := HX3.out.c1
      have s0 := (HC.out _ HS3.out.b).1
      have HN3 : Hid (w2.heap.size ∉ fp bo bm g L ++ fpd bd v) := fun hm => by have := HS2.out.lt _ hm; omega
      have HLl : Hid (L.length ≤ km) := by have h1 := HS2.out.len; have h2 := HKM.out; show _ ≤ _; omega
      have HAl : Hid (A.length ≤ km) := by have h1 := HS2.out.r.len; have h2 := HLl.out; show _ ≤ _; omega
      clear hb3
      by_cases e1 : x.1 = 1
      · have hR : Hid (Chg 15 16 w1 bo bm g bd ks p i w2.heap.size (w2.alloc (.cells #[.int .i64 p.1.1, .string p.1.2] TKey))) := chg HS3.out HI.out HP.out HX3.out HN3.out (o_add HS3.out.o HS3.out.r HI.out (by have := HLl.out; unfold maxLen; omega)) (fun W h => d_add h _ (by have := HAl.out; omega))
        rw [e1] at s0
        gi_wp2_with (first | (gi_at_call 15; refine (callsIn_wide.2 hR.out).mono ?_; rintro r w3 ⟨ab, rfl, hD⟩) | (gi_at_call 16; refine (callsIn_wide.2 hD).mono ?_; rintro r w4 ⟨rfl, q4, hH⟩; have q40 := q4.c0; have q41 := q4.c1; clear q4 hD) | (gi_at_call 25; refine (callsIn_wide.2 hH).mono ?_; rintro r w5 ⟨hb, rfl, hH2⟩; clear hH) | (gi_at_call 26; refine (callsIn_wide.2 hH2).mono ?_; rintro r w6 ⟨rfl, h6⟩; have H6 : Hid (∃ L v A, Sg w1 w6 bo bm g bd ks L v A A) := h6; clear h6 hH2))
        go_roundw
        case rel => exact ⟨k + 1, by omega, by go_num, H6⟩
        case measure => simp [intOf]; omega
      by_cases e2 : x.1 = 2
      · have hR : Hid (Chg 17 18 w1 bo bm g bd ks p i w2.heap.size (w2.alloc (.cells #[.int .i64 p.1.1, .string p.1.2] TKey))) := chg HS3.out HI.out HP.out HX3.out HN3.out (o_touch HS3.out.o HS3.out.r HI.out) (fun W h => d_touch h _)
        rw [e2] at s0
        gi_wp2_with (first | (gi_at_call 17; refine (callsIn_wide.2 hR.out).mono ?_; rintro r w3 ⟨ab, rfl, hD⟩) | (gi_at_call 18; refine (callsIn_wide.2 hD).mono ?_; rintro r w4 ⟨rfl, q4, hH⟩; have q40 := q4.c0; have q41 := q4.c1; clear q4 hD) | (gi_at_call 25; refine (callsIn_wide.2 hH).mono ?_; rintro r w5 ⟨hb, rfl, hH2⟩; clear hH) | (gi_at_call 26; refine (callsIn_wide.2 hH2).mono ?_; rintro r w6 ⟨rfl, h6⟩; have H6 : Hid (∃ L v A, Sg w1 w6 bo bm g bd ks L v A A) := h6; clear h6 hH2))
        go_roundw
        case rel => exact ⟨k + 1, by omega, by go_num, H6⟩
        case measure => simp [intOf]; omega
      by_cases e3 : x.1 = 3
      · have hR : Hid (Chg 19 20 w1 bo bm g bd ks p i w2.heap.size (w2.alloc (.cells #[.int .i64 p.1.1, .string p.1.2] TKey))) := chg HS3.out HI.out HP.out HX3.out HN3.out (o_drop HS3.out.o HS3.out.r HI.out) (fun W h => d_drop h _)
        rw [e3] at s0
        gi_wp2_with (first | (gi_at_call 19; refine (callsIn_wide.2 hR.out).mono ?_; rintro r w3 ⟨ab, rfl, hD⟩) | (gi_at_call 20; refine (callsIn_wide.2 hD).mono ?_; rintro r w4 ⟨rfl, q4, hH⟩; have q40 := q4.c0; have q41 := q4.c1; clear q4 hD) | (gi_at_call 25; refine (callsIn_wide.2 hH).mono ?_; rintro r w5 ⟨hb, rfl, hH2⟩; clear hH) | (gi_at_call 26; refine (callsIn_wide.2 hH2).mono ?_; rintro r w6 ⟨rfl, h6⟩; have H6 : Hid (∃ L v A, Sg w1 w6 bo bm g bd ks L v A A) := h6; clear h6 hH2))
        go_roundw
        case rel => exact ⟨k + 1, by omega, by go_num, H6⟩
        case measure => simp [intOf]; omega
      by_cases e4 : x.1 = 4
      · have hR : Hid (Chg 21 22 w1 bo bm g bd ks p i w2.heap.size (w2.alloc (.cells #[.int .i64 p.1.1, .string p.1.2] TKey))) := chg HS3.out HI.out HP.out HX3.out HN3.out (o_pin HS3.out.o HS3.out.r HI.out) (fun W h => d_pin h _)
        rw [e4] at s0
        gi_wp2_with (first | (gi_at_call 21; refine (callsIn_wide.2 hR.out).mono ?_; rintro r w3 ⟨ab, rfl, hD⟩) | (gi_at_call 22; refine (callsIn_wide.2 hD).mono ?_; rintro r w4 ⟨rfl, q4, hH⟩; have q40 := q4.c0; have q41 := q4.c1; clear q4 hD) | (gi_at_call 25; refine (callsIn_wide.2 hH).mono ?_; rintro r w5 ⟨hb, rfl, hH2⟩; clear hH) | (gi_at_call 26; refine (callsIn_wide.2 hH2).mono ?_; rintro r w6 ⟨rfl, h6⟩; have H6 : Hid (∃ L v A, Sg w1 w6 bo bm g bd ks L v A A) := h6; clear h6 hH2))
        go_roundw
        case rel => exact ⟨k + 1, by omega, by go_num, H6⟩
        case measure => simp [intOf]; omega
      by_cases e5 : x.1 = 5
      · have hR : Hid (Chg 23 24 w1 bo bm g bd ks p i w2.heap.size (w2.alloc (.cells #[.int .i64 p.1.1, .string p.1.2] TKey))) := chg HS3.out HI.out HP.out HX3.out HN3.out (o_unpin HS3.out.o HS3.out.r HI.out) (fun W h => d_unpin h _)
        rw [e5] at s0
        gi_wp2_with (first | (gi_at_call 23; refine (callsIn_wide.2 hR.out).mono ?_; rintro r w3 ⟨ab, rfl, hD⟩) | (gi_at_call 24; refine (callsIn_wide.2 hD).mono ?_; rintro r w4 ⟨rfl, q4, hH⟩; have q40 := q4.c0; have q41 := q4.c1; clear q4 hD) | (gi_at_call 25; refine (callsIn_wide.2 hH).mono ?_; rintro r w5 ⟨hb, rfl, hH2⟩; clear hH) | (gi_at_call 26; refine (callsIn_wide.2 hH2).mono ?_; rintro r w6 ⟨rfl, h6⟩; have H6 : Hid (∃ L v A, Sg w1 w6 bo bm g bd ks L v A A) := h6; clear h6 hH2))
        go_roundw
        case rel => exact ⟨k + 1, by omega, by go_num, H6⟩
        case measure => simp [intOf]; omega
      have g1 : (x.1 == 1) = false := by simpa using e1
      have g2 : (x.1 == 2) = false := by simpa using e2
      have g3 : (x.1 == 3) = false := by simpa using e3
      have g4 : (x.1 == 4) = false := by simpa using e4
      have g5 : (x.1 == 5) = false := by simpa using e5
      have hH : Has4 w1 bo bm g bd ks p i (w2.alloc (.cells #[.int .i64 p.1.1, .string p.1.2] TKey)) := has4 HS3.out HI.out HP.out
      clear e1 e2 e3 e4 e5
      gi_wp2_with (first | (gi_at_call 25; refine (callsIn_wide.2 hH).mono ?_; rintro r w5 ⟨hb, rfl, hH2⟩; clear hH) | (gi_at_call 26; refine (callsIn_wide.2 hH2).mono ?_; rintro r w6 ⟨rfl, h6⟩; have H6 : Hid (∃ L v A, Sg w1 w6 bo bm g bd ks L v A A) := h6; clear h6 hH2))
      go_roundw
      case rel => exact ⟨k + 1, by omega, by go_num, H6⟩
      case measure => simp [intOf]; omega
    · obtain ⟨L, v, A, hS⟩ := HK.out
      have hcrk := (HBK.out wr hS.b).1.cell
      obtain ⟨nm, hnm⟩ : ∃ nm, nm = A.length := ⟨_, rfl⟩
      have hnl : nm ≤ km := by have h1 := hS.len; have h2 := HKM.out; have h3 := hS.r.len; omega
      have HAd : Hid (Calls Try.prog 27 #[.pointer (some ⟨bd, 0, none⟩)] wr fun r w' => ∃ a c, r = .returned (.slice a nm c) ∧ IRB wr.heap.size w' a (keysOf A) ∧ Below wr.heap.size wr w') := by
        refine (all_any hS.d).mono ?_
        rintro r w' ⟨v, rfl, ho, hb⟩
        obtain ⟨a, c, rfl, hi⟩ := irb_of ho
        exact ⟨a, c, by rw [hnm]; simp [keysOf], hi, hb⟩
      have HNM : Hid (nm = A.length) := hnm
      have HS : Hid (Sg w1 wr bo bm g bd ks L v A A) := hS
      clear hS hnm HK
      have qs : ∀ (w : World) (f : Fn) (a b : Array Value), (binOp .eql 46 (.func f a b) .nilFunc).run Try.prog w = .ok (.bool false) w := fun _ _ _ _ => rfl
      have f27 : Fence.wide.fn 27 := trivial
      have f28 : Fence.wide.fn 28 := trivial
      have f83 : Fence.wide.fn 83 := trivial
      by_cases hlt : k < m
      · have hkm : km = 0 := by omega
        subst hkm
        have d1 : (k : Int) < (m : Int) := by omega
        gi_wp2_with (first | (gi_at_call 27; refine (callsIn_wide.2 HAd.out).mono ?_; rintro e w3 ⟨a3, c3, rfl, hi3, hb3⟩) | (gi_at_call 28; refine (callsIn_wide.2 (_root_.Go.Proofs.Ytpchllepboolhaa.P.A.func_any _ _)).mono ?_; rintro e w' ⟨rfl, rfl⟩))
        obtain ⟨WR, hWR⟩ : ∃ WR, WR = ((((w3.alloc (.cells #[.slice a3 nm c3] 43)).alloc (.cells #[.int .i64 0] 3)).alloc (.cells #[.pointer (some ⟨bo, 0, none⟩)] P.A.TPo)).alloc (.cells #[.func (.func 63) #[] #[]] P.A.TPf)) := ⟨_, rfl⟩
        have hS3 := HS.out.later hb3
        have hB3 : Below w3.heap.size w3 WR := by rw [hWR]; exact ((((Below.refl _ w3).alloc (Nat.le_refl _) _).alloc (by simp) _).alloc (by simp; omega) _).alloc (by simp; omega) _
        have hSR := hS3.later hB3
        have hsR : WR.heap.size = w3.heap.size + 4 := by rw [hWR]; simp
        have bxW : Boxed WR w3.heap.size 43 (.slice a3 nm c3) := by rw [hWR]; exact (((Boxed.new w3 _ _).alloc _).alloc _).alloc _
        have bxI : Boxed WR (w3.heap.size + 1) 3 (.int .i64 0) := by
          have := Boxed.new (w3.alloc (.cells #[.slice a3 nm c3] 43)) 3 (.int .i64 0)
          rw [World.size_alloc] at this
          rw [hWR]; exact (this.alloc _).alloc _
        have bxE0 : Boxed WR (w3.heap.size + 1 + 1) P.A.TPo (.pointer (some ⟨bo, 0, none⟩)) := by
          have := Boxed.new ((w3.alloc (.cells #[.slice a3 nm c3] 43)).alloc (.cells #[.int .i64 0] 3)) P.A.TPo (.pointer (some ⟨bo, 0, none⟩))
          simp only [World.size_alloc] at this
          rw [hWR]; exact this.alloc _
        have bxE1 : Boxed WR (w3.heap.size + 1 + 1 + 1) P.A.TPf (.func (.func 63) #[] #[]) := by
          have := Boxed.new (((w3.alloc (.cells #[.slice a3 nm c3] 43)).alloc (.cells #[.int .i64 0] 3)).alloc (.cells #[.pointer (some ⟨bo, 0, none⟩)] P.A.TPo)) P.A.TPf (.func (.func 63) #[] #[])
          simp only [World.size_alloc] at this
          rw [hWR]; exact this
        have hLl : L.length * 24 ≤ 140737488355328 := by have h1 := hSR.len; have h2 := HKM.out; omega
        have hseq := P.A.seq_any 3 (by omega) kpK_row hSR.o bxE0.cell bxE1.cell bxE1.lt hLl (fun _ _ _ _ => trivial) (fun _ _ _ _ _ _ _ => trivial)
        obtain ⟨X, hX⟩ : ∃ X, X = P.A.picked L := ⟨_, rfl⟩
        rw [← hX] at hseq
        have hXk : X = (keysOf A).map (kat ks) := by rw [hX, picked_all, rl_keys hSR.r]
        have hXl : X.length = nm := by rw [hXk, List.length_map, HNM.out]; simp [keysOf]
        have HX : Hid (X = (keysOf A).map (kat ks)) := hXk
        have HLn : Hid (L.length = nm) := by have h1 := hSR.r.len; have h2 := HNM.out; show _ = _; omega
        rw [hXl] at hseq
        rw [← hWR]
        have HSR : Hid (Sg w1 WR bo bm g bd ks L v A A) := hSR
        have hs3w : w.heap.size + 2 ≤ w3.heap.size := by have h1 := hS3.b.size; have h2 := HS1.out; omega
        have HBkw : Hid (∀ W, I.Kp WR W [w3.heap.size + 1] → Below w.heap.size w W) := fun W hW => (HBw.out WR hSR.b).trans ((hW.below (B := w.heap.size) (fun i hi => by simp at hi; omega) (by omega)))
        have HQW : Hid (∀ W, I.Kp WR W [w3.heap.size + 1] → Boxed W w3.heap.size 43 (.slice a3 nm c3) ∧ Boxed W w.heap.size 35 (.slice ka 0 kc) ∧ Boxed W (w.heap.size + 1) 4 (.bool false)) := fun W hW => by
          obtain ⟨h1, h2⟩ := HBK.out WR hSR.b
          exact ⟨Boxed.kp bxW hW (by simp), Boxed.kp h1 hW (by simp; omega), Boxed.kp h2 hW (by simp; omega)⟩
        have HQI : Hid (∀ W, I.Kp WR W [w3.heap.size + 1] → ∀ (j : Nat) (y : Int), (keysOf A)[j]? = some y → ∃ gb, a3 = some ⟨gb, 0, none⟩ ∧ W.cell? ⟨gb, j, none⟩ = some (.int .i64 y)) := fun W hW j y hy => by
          rcases hi3.c with h | ⟨gb, cur, h1, h2, h3, h4⟩
          · rw [h] at hy; simp at hy
          · have hlt3 := (Array.getElem?_eq_some_iff.1 h3).1
            have h5 : W.heap[gb]? = some (.cells cur 3 (0, 0)) := (hW.block gb (by omega) (by simp; omega)).trans ((hB3.block gb hlt3).trans h3)
            exact ⟨gb, h1, (cell_of h5).trans (h4 j y hy)⟩
        have HBI : Hid (Boxed WR (w3.heap.size + 1) 3 (.int .i64 0)) := bxI
        have HFP : Hid (∀ i ∈ fp bo bm g L ++ fpd bd v, i ≠ w3.heap.size + 1) := fun i hi e => by have := hS3.lt i hi; omega
        have HSZ : Hid (WR.heap.size = w3.heap.size + 4) := hsR
        clear hWR hS3 hB3 hSR hsR bxW bxI bxE0 bxE1 hLl hX hXk hi3 hb3 HAd HS
        refine wpIn_rangeFunc_ownH rfl (by omega) (gf := 83) (lb := #[.pointer (some ⟨w3.heap.size + 1 + 1, 0, none⟩), .pointer (some ⟨w3.heap.size + 1 + 1 + 1, 0, none⟩)]) rfl f83 (enters_of Try.func83 (by kernel_rfl) rfl)
          hseq KpK.trans (kpK_b (B := WR.heap.size)) (Below.refl _ _) (fun _ => rfl)
          (fun (pre : List PK) W => Boxed W (w3.heap.size + 1) 3 (.int .i64 pre.length) ∧ I.Kp WR W [w3.heap.size + 1])
          (fun c pre W => c = .ret ∧ ∃ (pre' : List PK) (x : PK), pre = pre' ++ [x] ∧ X[pre'.length]? ≠ some x)
          (OwnFrom.and (Own.from (boxed_own (w3.heap.size + 1) 3 (fun (pre : List PK) => .int .i64 pre.length)) _) kp_own)
          (fun c => ownFrom_pure _ _)
          ⟨HBI.out, I.Kp.refl _ _⟩
          (fun x a' W => ∃ Bx, KBox W Bx x ∧ a' = { tmps := #[.slice ka 0 kc, .slice ao m c, .pointer (some ⟨w.heap.size, 0, none⟩), undef, .pointer (some ⟨w.heap.size + 1, 0, none⟩), .pointer (some ⟨bo, 0, none⟩), .pointer (some ⟨bd, 0, none⟩), .int .i64 k, u8, u9, u10, .pointer (some ⟨w3.heap.size, 0, none⟩), .pointer (some ⟨w3.heap.size + 1, 0, none⟩), .func (.func 83) #[] #[.pointer (some ⟨w3.heap.size + 1 + 1, 0, none⟩), .pointer (some ⟨w3.heap.size + 1 + 1 + 1, 0, none⟩)], .pointer (some ⟨Bx, 0, none⟩), .pointer (some ⟨bo, 0, none⟩), .agg #[.bool true, .slice none 0 0], .pointer (some ⟨bd, 0, none⟩), .pointer (some ⟨bo, 0, none⟩), .bool false, .int .i64 k, .slice ao m c, .int .i64 m, .bool true, .bool true, .slice ka 0 kc, .int .i64 0, .bool false, .bool false, u29, u30, u31, u32, u33, u34, u35, u36, u37, u38, u39, u40, u41, u42, u43, u44, u45, u46, u47, u48, u49, u50, u51, u52, u53, u54, u55, u56, u57, u58, u59, u60, u61, u62, u63, u64, u65, u66, u67, u68, u69, u70, u71, u72, u73, u74, u75, u76, u77, u78, u79, u80, u81, u82, u83, u84, u85, u86, u87, u88, u89, u90, u91, u92, u93, u94, u95, u96, u97, u98, u99, u100, u101, u102, .pointer (some ⟨bd, 0, none⟩), .slice a3 nm c3, .pointer (some ⟨bo, 0, none⟩), .func (.func 83) #[] #[.pointer (some ⟨w3.heap.size + 1 + 1, 0, none⟩), .pointer (some ⟨w3.heap.size + 1 + 1 + 1, 0, none⟩)], .func (.func 83) #[] #[.pointer (some ⟨w3.heap.size + 1 + 1, 0, none⟩), .pointer (some ⟨w3.heap.size + 1 + 1 + 1, 0, none⟩)], .bool false, .func (.func 83) #[] #[.pointer (some ⟨w3.heap.size + 1 + 1, 0, none⟩), .pointer (some ⟨w3.heap.size + 1 + 1 + 1, 0, none⟩)], .agg #[.int .i64 x.1.1, .string x.1.2], undef, undef, undef, undef, undef, undef, undef, undef, undef, undef, undef, undef, undef, undef, undef, undef, undef, undef, undef, undef, undef, undef, undef, undef, undef, undef, undef, undef, undef, undef], defers := [] })
          (fun x a' s Y Z row hs hg hrow => by
            obtain ⟨Bx, hx, e⟩ := hs
            exact ⟨Bx, cells_own Bx _ _ _ () Y Z row hx hg hrow, e⟩)
          ?assign ?body ?done ?stop
        case assign =>
          rintro lr pre x W K ⟨hi, hk⟩ hK
          have hb : Below W.heap.size W (W.alloc (.cells #[.int .i64 x.1.1, .string x.1.2] TKey)) := (Below.refl _ W).alloc (Nat.le_refl _) _
          gi_wp2
          exact hK _ _ (keeps_of_kp (I.Kp.of_below hb []) (by simp)) (KpK.of_kp (I.Kp.of_below hb []) (by simp)) ⟨Boxed.later hi hb, hk.trans (I.Kp.of_below hb []) (by simp)⟩ ⟨W.heap.size, heap_alloc_new W _, rfl⟩
        case stop =>
          rintro Dd c2 pre W _ ⟨rest, hrest⟩ ⟨rfl, pre', x', rfl, hne'⟩ _
          exact absurd (by rw [hrest]; simp) hne'
        case done =>
          rintro Dd xs W hDd hxs ⟨hi, hk⟩ hKd
          rw [hxs, hXl] at hi
          have HKW : Hid (I.Kp WR W [w3.heap.size + 1]) := hk
          have HBW : Hid (Below w.heap.size w W) := HBkw.out W hk
          obtain ⟨bW, bK, bR⟩ := HQW.out W hk
          have hRO : RO W bo bm g L := HSR.out.o.kept (ofI hk) (fun i hi hf => HFP.out i (by simp [hi]) (by simpa using hf))
          have HLen : Hid (∀ Y, Below W.heap.size W Y → Calls Try.prog 29 #[.pointer (some ⟨bo, 0, none⟩)] Y fun r w' => r = .returned (.int .i64 nm) ∧ w' = Y) := fun Y hY => by
            have h1 := len_any (hRO.later hY)
            rw [HLn.out] at h1
            exact h1
          have HCC : Hid (∀ Y, Below W.heap.size W Y → Y.cell? ⟨w3.heap.size + 1, 0, none⟩ = some (.int .i64 nm) ∧ Y.cell? ⟨w3.heap.size, 0, none⟩ = some (.slice a3 nm c3)) := fun Y hY => ⟨(Boxed.later hi hY).cell, (Boxed.later bW hY).cell⟩
          have HRR : Hid (∀ Y, Below W.heap.size W Y → Boxed Y (w.heap.size + 1) 4 (.bool false)) := fun Y hY => Boxed.later bR hY
          have cI := hi.cell
          have cW := bW.cell
          have HKD : Hid (W.heap[Dd]? = some (.deferred (some []))) := hKd
          have HBd0 : Hid (Below W.heap.size W W.drew) := ⟨rfl, rfl, rfl, Nat.le_refl _, fun _ _ => rfl⟩
          have hne1 : w.heap.size + 1 ≠ w3.heap.size + 1 := by omega
          have hne2 : w.heap.size + 1 ≠ w3.heap.size := by omega
          have hDR : w3.heap.size + 4 ≤ Dd := by have := HSZ.out; omega
          clear hi hk bW bK bR hRO hKd hseq hxs
          gi_wp2
          refine wpIn_wide.2 ?_
          go_region_held3 (fun w' => w'.cell? ⟨w3.heap.size + 1, 0, none⟩ = some (.int .i64 nm) ∧ w'.cell? ⟨w3.heap.size, 0, none⟩ = some (.slice a3 nm c3))
            (first | exact hSput.out _ | go_keep | exact HCC.out _ HB6'.out | exact HCC.out _ HBd0.out | fail)
            (first
              | (go_at_call 29; refine (HLen.out _ HBd0.out).mono ?_; rintro e w4 ⟨rfl, hw4⟩; rw [hw4]; clear hw4)
              | (go_at_call 12; refine (S.alive_any _).mono ?_; rintro e w6 ⟨rfl, hb6'⟩; have HB6' : Hid (Below W.heap.size W w6) := HBd0.out.trans (hb6'.mono HBd0.out.size); have hz6 := (HRR.out w6 HB6'.out).cell; have hy6 := (HRR.out w6 HB6'.out).frozen; have hSput : Hid (∀ v, (w6.setCell ⟨w.heap.size + 1, 0, none⟩ v).cell? ⟨w3.heap.size + 1, 0, none⟩ = some (.int .i64 nm) ∧ (w6.setCell ⟨w.heap.size + 1, 0, none⟩ v).cell? ⟨w3.heap.size, 0, none⟩ = some (.slice a3 nm c3)) := (fun v => by obtain ⟨q1, q2⟩ := HCC.out _ HB6'.out; exact ⟨(World.cell?_setCell_far _ _ _ _ hne1).trans q1, (World.cell?_setCell_far _ _ _ _ hne2).trans q2⟩); clear hb6')
              | fail)
          gi_wp2
          have hx6 := (HRR.out w6 HB6'.out).set (.bool true)
          have hsw := HBW.out.size
          have hne6 : Dd ≠ w.heap.size + 1 := by omega
          have hK7 : (w6.setCell ⟨w.heap.size + 1, 0, none⟩ (.bool true)).heap[Dd]? = some (.deferred (some [])) := (Below.heap_setCell _ _ _ _ hne6).trans ((HB6'.out.block Dd (Array.getElem?_eq_some_iff.1 HKD.out).1).trans HKD.out)
          have hB7 : Below w.heap.size w (w6.setCell ⟨w.heap.size + 1, 0, none⟩ (.bool true)) := (HBW.out.trans (HB6'.out.mono hsw)).setCell (by show w.heap.size ≤ w.heap.size + 1; omega) _
          refine ⟨by simp, .inl ⟨_, _, rfl, run_takeDeferred hK7, ?_⟩⟩
          have hx7 : Boxed ((w6.setCell ⟨w.heap.size + 1, 0, none⟩ (.bool true)).putObj Dd (.deferred none)) (w.heap.size + 1) 4 (.bool true) := (World.putObj_heap_other (Ne.symm hne6)).trans hx6
          exact ⟨_, results_bool rfl _ _ _ true rfl hx7.cell, rfl, hB7.trans (belowK_b (w := w) (Nat.le_refl _) _ Dd _ _ (by omega) hK7 rfl rfl)⟩
        case body =>
          rintro lr pre x a' W hlr ⟨rr, hrr⟩ ⟨hi, hk⟩ ⟨Bx, hx, rfl⟩ hlt2
          exact absurd hlt2 (by omega)
      · have e : k = m := by omega
        subst e
        gi_wp2_with (first | (gi_at_call 27; refine (callsIn_wide.2 HAd.out).mono ?_; rintro e w3 ⟨a3, c3, rfl, hi3, hb3⟩) | (gi_at_call 28; refine (callsIn_wide.2 (_root_.Go.Proofs.Ytpchllepboolhaa.P.A.func_any _ _)).mono ?_; rintro e w' ⟨rfl, rfl⟩))
        obtain ⟨WR, hWR⟩ : ∃ WR, WR = ((((w3.alloc (.cells #[.slice a3 nm c3] 43)).alloc (.cells #[.int .i64 0] 3)).alloc (.cells #[.pointer (some ⟨bo, 0, none⟩)] P.A.TPo)).alloc (.cells #[.func (.func 63) #[] #[]] P.A.TPf)) := ⟨_, rfl⟩
        have hS3 := HS.out.later hb3
        have hB3 : Below w3.heap.size w3 WR := by rw [hWR]; exact ((((Below.refl _ w3).alloc (Nat.le_refl _) _).alloc (by simp) _).alloc (by simp; omega) _).alloc (by simp; omega) _
        have hSR := hS3.later hB3
        have hsR : WR.heap.size = w3.heap.size + 4 := by rw [hWR]; simp
        have bxW : Boxed WR w3.heap.size 43 (.slice a3 nm c3) := by rw [hWR]; exact (((Boxed.new w3 _ _).alloc _).alloc _).alloc _
        have bxI : Boxed WR (w3.heap.size + 1) 3 (.int .i64 0) := by
          have := Boxed.new (w3.alloc (.cells #[.slice a3 nm c3] 43)) 3 (.int .i64 0)
          rw [World.size_alloc] at this
          rw [hWR]; exact (this.alloc _).alloc _
        have bxE0 : Boxed WR (w3.heap.size + 1 + 1) P.A.TPo (.pointer (some ⟨bo, 0, none⟩)) := by
          have := Boxed.new ((w3.alloc (.cells #[.slice a3 nm c3] 43)).alloc (.cells #[.int .i64 0] 3)) P.A.TPo (.pointer (some ⟨bo, 0, none⟩))
          simp only [World.size_alloc] at this
          rw [hWR]; exact this.alloc _
        have bxE1 : Boxed WR (w3.heap.size + 1 + 1 + 1) P.A.TPf (.func (.func 63) #[] #[]) := by
          have := Boxed.new (((w3.alloc (.cells #[.slice a3 nm c3] 43)).alloc (.cells #[.int .i64 0] 3)).alloc (.cells #[.pointer (some ⟨bo, 0, none⟩)] P.A.TPo)) P.A.TPf (.func (.func 63) #[] #[])
          simp only [World.size_alloc] at this
          rw [hWR]; exact this
        have hLl : L.length * 24 ≤ 140737488355328 := by have h1 := hSR.len; have h2 := HKM.out; omega
        have hseq := P.A.seq_any 3 (by omega) kpK_row hSR.o bxE0.cell bxE1.cell bxE1.lt hLl (fun _ _ _ _ => trivial) (fun _ _ _ _ _ _ _ => trivial)
        obtain ⟨X, hX⟩ : ∃ X, X = P.A.picked L := ⟨_, rfl⟩
        rw [← hX] at hseq
        have hXk : X = (keysOf A).map (kat ks) := by rw [hX, picked_all, rl_keys hSR.r]
        have hXl : X.length = nm := by rw [hXk, List.length_map, HNM.out]; simp [keysOf]
        have HX : Hid (X = (keysOf A).map (kat ks)) := hXk
        have HLn : Hid (L.length = nm) := by have h1 := hSR.r.len; have h2 := HNM.out; show _ = _; omega
        rw [hXl] at hseq
        rw [← hWR]
        have HSR : Hid (Sg w1 WR bo bm g bd ks L v A A) := hSR
        have hs3w : w.heap.size + 2 ≤ w3.heap.size := by have h1 := hS3.b.size; have h2 := HS1.out; omega
        have HBkw : Hid (∀ W, I.Kp WR W [w3.heap.size + 1] → Below w.heap.size w W) := fun W hW => (HBw.out WR hSR.b).trans ((hW.below (B := w.heap.size) (fun i hi => by simp at hi; omega) (by omega)))
        have HQW : Hid (∀ W, I.Kp WR W [w3.heap.size + 1] → Boxed W w3.heap.size 43 (.slice a3 nm c3) ∧ Boxed W w.heap.size 35 (.slice ka km kc) ∧ Boxed W (w.heap.size + 1) 4 (.bool false)) := fun W hW => by
          obtain ⟨h1, h2⟩ := HBK.out WR hSR.b
          exact ⟨Boxed.kp bxW hW (by simp), Boxed.kp h1 hW (by simp; omega), Boxed.kp h2 hW (by simp; omega)⟩
        have HQI : Hid (∀ W, I.Kp WR W [w3.heap.size + 1] → ∀ (j : Nat) (y : Int), (keysOf A)[j]? = some y → ∃ gb, a3 = some ⟨gb, 0, none⟩ ∧ W.cell? ⟨gb, j, none⟩ = some (.int .i64 y)) := fun W hW j y hy => by
          rcases hi3.c with h | ⟨gb, cur, h1, h2, h3, h4⟩
          · rw [h] at hy; simp at hy
          · have hlt3 := (Array.getElem?_eq_some_iff.1 h3).1
            have h5 : W.heap[gb]? = some (.cells cur 3 (0, 0)) := (hW.block gb (by omega) (by simp; omega)).trans ((hB3.block gb hlt3).trans h3)
            exact ⟨gb, h1, (cell_of h5).trans (h4 j y hy)⟩
        have HBI : Hid (Boxed WR (w3.heap.size + 1) 3 (.int .i64 0)) := bxI
        have HFP : Hid (∀ i ∈ fp bo bm g L ++ fpd bd v, i ≠ w3.heap.size + 1) := fun i hi e => by have := hS3.lt i hi; omega
        have HSZ : Hid (WR.heap.size = w3.heap.size + 4) := hsR
        clear hWR hS3 hB3 hSR hsR bxW bxI bxE0 bxE1 hLl hX hXk hi3 hb3 HAd HS
        refine wpIn_rangeFunc_ownH rfl (by omega) (gf := 83) (lb := #[.pointer (some ⟨w3.heap.size + 1 + 1, 0, none⟩), .pointer (some ⟨w3.heap.size + 1 + 1 + 1, 0, none⟩)]) rfl f83 (enters_of Try.func83 (by kernel_rfl) rfl)
          hseq KpK.trans (kpK_b (B := WR.heap.size)) (Below.refl _ _) (fun _ => rfl)
          (fun (pre : List PK) W => Boxed W (w3.heap.size + 1) 3 (.int .i64 pre.length) ∧ I.Kp WR W [w3.heap.size + 1])
          (fun c pre W => c = .ret ∧ ∃ (pre' : List PK) (x : PK), pre = pre' ++ [x] ∧ X[pre'.length]? ≠ some x)
          (OwnFrom.and (Own.from (boxed_own (w3.heap.size + 1) 3 (fun (pre : List PK) => .int .i64 pre.length)) _) kp_own)
          (fun c => ownFrom_pure _ _)
          ⟨HBI.out, I.Kp.refl _ _⟩
          (fun x a' W => ∃ Bx, KBox W Bx x ∧ a' = { tmps := #[.slice ka km kc, .slice ao k c, .pointer (some ⟨w.heap.size, 0, none⟩), undef, .pointer (some ⟨w.heap.size + 1, 0, none⟩), .pointer (some ⟨bo, 0, none⟩), .pointer (some ⟨bd, 0, none⟩), .int .i64 k, u8, u9, u10, .pointer (some ⟨w3.heap.size, 0, none⟩), .pointer (some ⟨w3.heap.size + 1, 0, none⟩), .func (.func 83) #[] #[.pointer (some ⟨w3.heap.size + 1 + 1, 0, none⟩), .pointer (some ⟨w3.heap.size + 1 + 1 + 1, 0, none⟩)], .pointer (some ⟨Bx, 0, none⟩), .pointer (some ⟨bo, 0, none⟩), .agg #[.bool true, .slice none 0 0], .pointer (some ⟨bd, 0, none⟩), .pointer (some ⟨bo, 0, none⟩), .bool false, .int .i64 k, .slice ao k c, .int .i64 k, .bool false, .bool false, undef, undef, undef, .bool false, u29, u30, u31, u32, u33, u34, u35, u36, u37, u38, u39, u40, u41, u42, u43, u44, u45, u46, u47, u48, u49, u50, u51, u52, u53, u54, u55, u56, u57, u58, u59, u60, u61, u62, u63, u64, u65, u66, u67, u68, u69, u70, u71, u72, u73, u74, u75, u76, u77, u78, u79, u80, u81, u82, u83, u84, u85, u86, u87, u88, u89, u90, u91, u92, u93, u94, u95, u96, u97, u98, u99, u100, u101, u102, .pointer (some ⟨bd, 0, none⟩), .slice a3 nm c3, .pointer (some ⟨bo, 0, none⟩), .func (.func 83) #[] #[.pointer (some ⟨w3.heap.size + 1 + 1, 0, none⟩), .pointer (some ⟨w3.heap.size + 1 + 1 + 1, 0, none⟩)], .func (.func 83) #[] #[.pointer (some ⟨w3.heap.size + 1 + 1, 0, none⟩), .pointer (some ⟨w3.heap.size + 1 + 1 + 1, 0, none⟩)], .bool false, .func (.func 83) #[] #[.pointer (some ⟨w3.heap.size + 1 + 1, 0, none⟩), .pointer (some ⟨w3.heap.size + 1 + 1 + 1, 0, none⟩)], .agg #[.int .i64 x.1.1, .string x.1.2], undef, undef, undef, undef, undef, undef, undef, undef, undef, undef, undef, undef, undef, undef, undef, undef, undef, undef, undef, undef, undef, undef, undef, undef, undef, undef, undef, undef, undef, undef], defers := [] })
          (fun x a' s Y Z row hs hg hrow => by
            obtain ⟨Bx, hx, e⟩ := hs
            exact ⟨Bx, cells_own Bx _ _ _ () Y Z row hx hg hrow, e⟩)
          ?assign ?body ?done ?stop
        case assign =>
          rintro lr pre x W K ⟨hi, hk⟩ hK
          have hb : Below W.heap.size W (W.alloc (.cells #[.int .i64 x.1.1, .string x.1.2] TKey)) := (Below.refl _ W).alloc (Nat.le_refl _) _
          gi_wp2
          exact hK _ _ (keeps_of_kp (I.Kp.of_below hb []) (by simp)) (KpK.of_kp (I.Kp.of_below hb []) (by simp)) ⟨Boxed.later hi hb, hk.trans (I.Kp.of_below hb []) (by simp)⟩ ⟨W.heap.size, heap_alloc_new W _, rfl⟩
        case stop =>
          rintro Dd c2 pre W _ ⟨rest, hrest⟩ ⟨rfl, pre', x', rfl, hne'⟩ _
          exact absurd (by rw [hrest]; simp) hne'
        case done =>
          rintro Dd xs W hDd hxs ⟨hi, hk⟩ hKd
          rw [hxs, hXl] at hi
          have HKW : Hid (I.Kp WR W [w3.heap.size + 1]) := hk
          have HBW : Hid (Below w.heap.size w W) := HBkw.out W hk
          obtain ⟨bW, bK, bR⟩ := HQW.out W hk
          have hRO : RO W bo bm g L := HSR.out.o.kept (ofI hk) (fun i hi hf => HFP.out i (by simp [hi]) (by simpa using hf))
          have HLen : Hid (∀ Y, Below W.heap.size W Y → Calls Try.prog 29 #[.pointer (some ⟨bo, 0, none⟩)] Y fun r w' => r = .returned (.int .i64 nm) ∧ w' = Y) := fun Y hY => by
            have h1 := len_any (hRO.later hY)
            rw [HLn.out] at h1
            exact h1
          have HCC : Hid (∀ Y, Below W.heap.size W Y → Y.cell? ⟨w3.heap.size + 1, 0, none⟩ = some (.int .i64 nm) ∧ Y.cell? ⟨w3.heap.size, 0, none⟩ = some (.slice a3 nm c3)) := fun Y hY => ⟨(Boxed.later hi hY).cell, (Boxed.later bW hY).cell⟩
          have HRR : Hid (∀ Y, Below W.heap.size W Y → Boxed Y (w.heap.size + 1) 4 (.bool false)) := fun Y hY => Boxed.later bR hY
          have cI := hi.cell
          have cW := bW.cell
          have HKD : Hid (W.heap[Dd]? = some (.deferred (some []))) := hKd
          have HBd0 : Hid (Below W.heap.size W W.drew) := ⟨rfl, rfl, rfl, Nat.le_refl _, fun _ _ => rfl⟩
          have hne1 : w.heap.size + 1 ≠ w3.heap.size + 1 := by omega
          have hne2 : w.heap.size + 1 ≠ w3.heap.size := by omega
          have hDR : w3.heap.size + 4 ≤ Dd := by have := HSZ.out; omega
          clear hi hk bW bK bR hRO hKd hseq hxs
          gi_wp2
          refine wpIn_wide.2 ?_
          go_region_held3 (fun w' => w'.cell? ⟨w3.heap.size + 1, 0, none⟩ = some (.int .i64 nm) ∧ w'.cell? ⟨w3.heap.size, 0, none⟩ = some (.slice a3 nm c3))
            (first | exact hSput.out _ | go_keep | exact HCC.out _ HB6'.out | exact HCC.out _ HBd0.out | fail)
            (first
              | (go_at_call 29; refine (HLen.out _ HBd0.out).mono ?_; rintro e w4 ⟨rfl, hw4⟩; rw [hw4]; clear hw4)
              | (go_at_call 12; refine (S.alive_any _).mono ?_; rintro e w6 ⟨rfl, hb6'⟩; have HB6' : Hid (Below W.heap.size W w6) := HBd0.out.trans (hb6'.mono HBd0.out.size); have hz6 := (HRR.out w6 HB6'.out).cell; have hy6 := (HRR.out w6 HB6'.out).frozen; have hSput : Hid (∀ v, (w6.setCell ⟨w.heap.size + 1, 0, none⟩ v).cell? ⟨w3.heap.size + 1, 0, none⟩ = some (.int .i64 nm) ∧ (w6.setCell ⟨w.heap.size + 1, 0, none⟩ v).cell? ⟨w3.heap.size, 0, none⟩ = some (.slice a3 nm c3)) := (fun v => by obtain ⟨q1, q2⟩ := HCC.out _ HB6'.out; exact ⟨(World.cell?_setCell_far _ _ _ _ hne1).trans q1, (World.cell?_setCell_far _ _ _ _ hne2).trans q2⟩); clear hb6')
              | fail)
          gi_wp2
          have hx6 := (HRR.out w6 HB6'.out).set (.bool true)
          have hsw := HBW.out.size
          have hne6 : Dd ≠ w.heap.size + 1 := by omega
          have hK7 : (w6.setCell ⟨w.heap.size + 1, 0, none⟩ (.bool true)).heap[Dd]? = some (.deferred (some [])) := (Below.heap_setCell _ _ _ _ hne6).trans ((HB6'.out.block Dd (Array.getElem?_eq_some_iff.1 HKD.out).1).trans HKD.out)
          have hB7 : Below w.heap.size w (w6.setCell ⟨w.heap.size + 1, 0, none⟩ (.bool true)) := (HBW.out.trans (HB6'.out.mono hsw)).setCell (by show w.heap.size ≤ w.heap.size + 1; omega) _
          refine ⟨by simp, .inl ⟨_, _, rfl, run_takeDeferred hK7, ?_⟩⟩
          have hx7 : Boxed ((w6.setCell ⟨w.heap.size + 1, 0, none⟩ (.bool true)).putObj Dd (.deferred none)) (w.heap.size + 1) 4 (.bool true) := (World.putObj_heap_other (Ne.symm hne6)).trans hx6
          exact ⟨_, results_bool rfl _ _ _ true rfl hx7.cell, rfl, hB7.trans (belowK_b (w := w) (Nat.le_refl _) _ Dd _ _ (by omega) hK7 rfl rfl)⟩
        case body =>
          rintro lr pre x a' W hlr ⟨rr, hrr⟩ ⟨hi, hk⟩ ⟨Bx, hx, rfl⟩ hlt2
          have hx0 := hx.c0
          have hx1 := hx.c1
          obtain ⟨bW, bK, bR⟩ := HQW.out W hk
          have cW := bW.cell
          have cK := bK.cell
          have cI := hi.cell
          have fI := hi.frozen
          have cR := bR.cell
          have fR := bR.frozen
          obtain ⟨y, hy⟩ : ∃ y, (keysOf A)[pre.length]? = some y := ⟨_, List.getElem?_eq_getElem (by have h1 := HNM.out; simp [keysOf]; omega)⟩
          obtain ⟨gb, hgb, hcb⟩ := HQI.out W hk _ _ hy
          have hfst : Fst ks y := by
            have hm := List.mem_of_getElem? hy
            unfold keysOf at hm
            obtain ⟨z, hz, rfl⟩ := List.mem_map.1 hm
            exact HSR.out.r.f z hz
          obtain ⟨jn, rfl⟩ : ∃ jn : Nat, y = jn := ⟨y.toNat, by have := hfst.lo; omega⟩
          obtain ⟨kb, koff, hka, hkr⟩ := HKR.out.resolve_left (by omega)
          obtain ⟨p, hp⟩ : ∃ p, p = kat ks jn := ⟨_, rfl⟩
          have hjl : jn < ks.length := by simpa using hfst.hi
          obtain ⟨p0, p1⟩ := (hkr.later (HBkw.out W hk)).c jn p (by rw [hp]; exact getD_some hjl)
          have HXp : Hid (X[pre.length]? = some p) := by
            show X[pre.length]? = some p
            rw [HX.out, List.getElem?_map, hy, hp]; rfl
          have hjk : (jn : Int) < (km : Int) := by have := HKM.out; omega
          subst hgb
          subst hka
          obtain ⟨np, hnp⟩ : ∃ np, np = pre.length := ⟨_, rfl⟩
          rw [← hnp] at cI hcb hlt2
          have HNP : Hid (np = pre.length) := hnp
          have hge : (np : Int) < (nm : Int) := by omega
          have hge2 : decide ((nm : Int) ≤ (np : Int)) = false := decide_eq_false (by omega)
          have hge3 : decide (nm ≤ np) = false := decide_eq_false (by omega)
          have mixed : Try.prog.follows .mixedOrders = true := by kernel_rfl
          have HI : Hid (Boxed W (w3.heap.size + 1) 3 (.int .i64 pre.length)) := hi
          have HK : Hid (I.Kp WR W [w3.heap.size + 1]) := hk
          have HR : Hid (Boxed W (w.heap.size + 1) 4 (.bool false)) := bR
          have cI2 : ∀ q, (W.drewN q).cell? ⟨w3.heap.size + 1, 0, none⟩ = some (.int .i64 np) := fun q => cI
          have fI2 : ∀ q, (W.drewN q).frozen? ⟨w3.heap.size + 1, 0, none⟩ = false := fun q => fI
          have hnb : np + 1 ≤ 5864062014805 := by omega
          have hrest : ∀ nq, KeepsFrom WR.heap.size W ((W.drewN nq).setCell ⟨w.heap.size + 1, 0, none⟩ (.bool false)) := fun nq => keeps_of_kp (F := [w.heap.size + 1]) (by
            have h2 := kp_put (W.drewN nq) (w.heap.size + 1) (.bool false)
            exact ⟨h2.os, h2.tape, h2.output, h2.size, h2.block⟩) (fun i hi => .inr (by have e : i = w.heap.size + 1 := (by simpa using hi); subst e; exact ⟨_, _, _, HR.out⟩))
          have HRest : Hid (∀ nq, KeepsFrom WR.heap.size W ((W.drewN nq).setCell ⟨w.heap.size + 1, 0, none⟩ (.bool false))) := hrest
          have HGo : Hid (∀ nq, KeepsFrom WR.heap.size W ((W.drewN nq).setCell ⟨w3.heap.size + 1, 0, none⟩ (.int .i64 ((np : Int) + 1))) ∧ KpK W ((W.drewN nq).setCell ⟨w3.heap.size + 1, 0, none⟩ (.int .i64 ((np : Int) + 1))) ∧ Boxed ((W.drewN nq).setCell ⟨w3.heap.size + 1, 0, none⟩ (.int .i64 ((np : Int) + 1))) (w3.heap.size + 1) 3 (.int .i64 ((pre ++ [x]).length : Nat)) ∧ I.Kp WR ((W.drewN nq).setCell ⟨w3.heap.size + 1, 0, none⟩ (.int .i64 ((np : Int) + 1))) [w3.heap.size + 1]) := fun nq => by
            have hk1 : I.Kp W ((W.drewN nq).setCell ⟨w3.heap.size + 1, 0, none⟩ (.int .i64 ((np : Int) + 1))) [w3.heap.size + 1] := by
              have h2 := kp_put (W.drewN nq) (w3.heap.size + 1) (.int .i64 ((np : Int) + 1))
              exact ⟨h2.os, h2.tape, h2.output, h2.size, h2.block⟩
            refine ⟨keeps_of_kp hk1 (fun i hi => .inr (by have e : i = w3.heap.size + 1 := (by simpa using hi); subst e; exact ⟨_, _, _, HI.out⟩)), KpK.of_kp hk1 (fun i hi cur fr h => ?_), ?_, HK.out.trans hk1 (fun i hi => .inl hi)⟩
            · have e : i = w3.heap.size + 1 := by simpa using hi
              subst e
              have := (show W.heap[_]? = _ from HI.out).symm.trans h
              simp at this
              exact absurd this.2.1 (by decide)
            · have h3 : Boxed (W.drewN nq) (w3.heap.size + 1) 3 (.int .i64 pre.length) := HI.out
              have h4 := h3.set (.int .i64 ((np : Int) + 1))
              have e5 : ((np : Int) + 1) = (((pre ++ [x]).length : Nat) : Int) := by rw [List.length_append]; have := HNP.out; simp; omega
              rw [← e5]; exact h4
          clear hrest hx hi hk bW bK bR hy hfst hkr hrr hseq hnp cI fI hp
          by_cases hxp : x = p
          · subst hxp
            clear HRest
            gi_big_wp2
            refine region_quiet (by kernel_rfl) mixed (by kernel_rfl) ?_
            repeat (gi_big_quiet_step (fail))
            refine wpQuietIn_nil ?_
            intro _ hw'
            obtain ⟨nq, hw''⟩ := hw'
            subst hw''
            gi_big_wp2
            exact HGo.out nq
          · have HNE : Hid (X[pre.length]? ≠ some x) := by
              show X[pre.length]? ≠ some x
              rw [HXp.out]; exact fun h => hxp (by cases h; rfl)
            clear HGo
            rcases pk_ne hxp with h1 | ⟨h1, h2⟩
            · have h1' : (x.1.1 == p.1.1) = false := by simpa using h1
              clear hxp h1
              gi_big_wp2
              refine region_quiet (by kernel_rfl) mixed (by kernel_rfl) ?_
              repeat (gi_big_quiet_step (fail))
              refine wpQuietIn_nil ?_
              intro _ hw'
              obtain ⟨nq, hw''⟩ := hw'
              subst hw''
              gi_big_wp2
              exact ⟨HRest.out nq, rfl, pre, x, rfl, HNE.out⟩
            · have h2' : (x.1.2.toList == p.1.2.toList) = false := bytes_ne h2
              rw [← h1] at p0
              clear hxp h2 h1
              gi_big_wp2
              refine region_quiet (by kernel_rfl) mixed (by kernel_rfl) ?_
              repeat (gi_big_quiet_step (fail))
              refine wpQuietIn_nil ?_
              intro _ hw'
              obtain ⟨nq, hw''⟩ := hw'
              subst hw''
              gi_big_wp2
              exact ⟨HRest.out nq, rfl, pre, x, rfl, HNE.out⟩
end Go.Proofs.Ytpchllepboolhaa.P
