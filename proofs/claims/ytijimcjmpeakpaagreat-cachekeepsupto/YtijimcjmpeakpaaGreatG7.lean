import Derived.WalkKit
import Derived.WalkSpells
import Derived.WalkLawsBesides
import Derived.Laws.AppendOwnNone
import Derived.Test.YtijimcjmpeakpaaGreatzKB
import Derived.Test.YtijimcjmpeakpaaGreatzKW
namespace Go.Proofs.YtijimcjmpeakpaaGreat
open Go.RowKit
set_option linter.unusedVariables false
set_option maxRecDepth 100000

theorem owns_mono {w : World} {b b' : Nat} {e : TypeId} {size : Nat} {v : Value} {n : Nat} {xs : List Value} (h : w.ownsRow b e size v n xs) (hb : b' ≤ b) : w.ownsRow b' e size v n xs := by
  refine ⟨h.1, ?_⟩
  rcases h.2 with h2 | ⟨g, cap, cur, hv, hg, r⟩
  · exact .inl h2
  · exact .inr ⟨g, cap, cur, hv, Nat.le_trans hb hg, r⟩
/-- the block of a slice is the old one or a new one -/
def Fresh (w : World) (v v' : Value) : Prop := v'.ownBlock = v.ownBlock ∨ ∃ g, v'.ownBlock = some g ∧ w.heap.size ≤ g
theorem fresh_of_owns {w w' : World} {v' : Value} {e : TypeId} {n : Nat} {xs : List Value} (h : w'.ownsRow w.heap.size e 1 v' n xs) : v'.ownBlock = none ∨ ∃ g, v'.ownBlock = some g ∧ w.heap.size ≤ g := by
  rcases h.2 with ⟨hv, _⟩ | ⟨g, cap, cur, hv, hg, _⟩
  · subst hv; exact .inl rfl
  · subst hv; exact .inr ⟨g, rfl, hg⟩

/-- append to a row of one's own (nil, with room or without), from whatever slice (nil too): the block is the old one or a new one -/
theorem wpList_append_two {P : Program} (w : World) {ops : Array Oper} {rest : List Oper} {o : Oper} {a : Act} {Q : Exit → Act → World → Prop} (hgd : o.guard = none) (s x : Operand) (t : TypeId)
    (ho : o.op = .call { callee := .builtin .append, args := #[s, x], argTypes := #[t, t] })
    (base : Nat) (e : TypeId) (i : TypeInfo) (z : Value) (bytes : Nat) (ht : P.underlying t = some (.slice e)) (hi : P.info? e = some i) (hz : i.zero = some z)
    (hsize : i.size = 1) (hby : i.bytes = bytes) (hzs : z.cells.size = 1)
    (v : Value) (n : Nat) (xs : List Value) (hs : a.eval s = v) (hown : w.ownsRow base e 1 v n xs)
    (ao : Option Addr) (m c : Nat) (news : List Value) (hx : a.eval x = .slice ao m c) (hnone : ao = none → m = 0 ∧ c = 0) (hl : news.length = m)
    (hnews : ∀ ad, ao = some ad → ∀ j u, news[j]? = some u → w.cell? (ad.add j) = some u) (h1 : ∀ u ∈ news, u.oneCell' = true)
    (h63 : n + m ≤ maxLen) (hbytes : (n + m) * bytes ≤ 140737488355328) (hbase : base ≤ w.heap.size)
    (h : ∀ v' w', w'.ownsRow base e 1 v' (n + m) (xs ++ news) → w.grownBy w' v.ownBlock → Fresh w v v' → wpList P ops Q rest (a.put o.dst v') w') : wpList P ops Q (o :: rest) a w := by
  cases ao with
  | none =>
    obtain ⟨rfl, rfl⟩ := hnone rfl
    have hnil : news = [] := List.eq_nil_of_length_eq_zero hl
    subst hnil
    refine wpList_append_own_none hgd s x t ho base e i 1 ht hi v n xs hs hown hx ?_
    exact h v w (by simpa using hown) (World.grownBy.refl w _) (.inl rfl)
  | some ad =>
    have hl' : news.length = m * 1 := by omega
    rcases hown.2 with ⟨hv, hn⟩ | ⟨g, cap, cur, hv, hg, hcur, hnc, hcm, hsz, htk⟩
    · subst hv; subst hn
      have hxs : xs = [] := List.eq_nil_of_length_eq_zero (by simpa using hown.1)
      subst hxs
      refine wpList_append_own w hgd s x t ho w.heap.size e i z 1 bytes ht hi hz hsize hby hzs (by decide) _ 0 [] hs (World.ownsRow_nil _ _ _ _) ad m c news hx hl' (hnews ad rfl) h1 h63 hbytes (Nat.le_refl _) ?_
      intro v' w' ho' hg' _
      refine h v' w' (owns_mono ho' hbase) hg' ?_
      rcases fresh_of_owns ho' with hf | hf
      · exact .inl hf
      · exact .inr hf
    · subst hv
      by_cases hroom : n + m ≤ cap
      · refine wpList_append_fits w hgd s x t ho base e i 1 ht hi hsize g n cap xs hs hown ad m c news hx hl' (hnews ad rfl) h1 hroom ?_
        intro w' ho' hg'
        exact h _ w' ho' hg' (.inl rfl)
      · refine wpList_append_grows w hgd s x t ho e i z 1 bytes ht hi hz hsize hby hzs (by decide) (some ⟨g, 0, none⟩) n cap xs hs (fun h => by simp at h) (by simpa using hown.1) ?_ ad m c news hx hl' (hnews ad rfl) h1 (by omega) h63 hbytes ?_
        · intro b hb j u hu
          cases hb
          have hj : j < n * 1 := by
            have := (List.getElem?_eq_some_iff.1 hu).1
            rw [hown.1] at this; exact this
          rw [WideShapes.add_plain, Nat.zero_add, hown.cellAt j hj]; exact hu
        · intro v' w' ho' hg'
          refine h v' w' (owns_mono ho' hbase) ?_ ?_
          · exact ⟨hg'.os, hg'.tape, hg'.output, hg'.size, fun k hk _ => hg'.block k hk (by simp)⟩
          · rcases fresh_of_owns ho' with hf | hf
            · exfalso
              rcases ho'.2 with ⟨hv', hn'⟩ | ⟨g', cap', cur', hv', _⟩
              · omega
              · subst hv'; simp [Value.ownBlock] at hf
            · exact .inr hf

/-- append where there is room, from whatever slice (nil too) -/
theorem wpList_append_room {P : Program} (w : World) {ops : Array Oper} {rest : List Oper} {o : Oper} {a : Act} {Q : Exit → Act → World → Prop} (hgd : o.guard = none) (s x : Operand) (t : TypeId)
    (ho : o.op = .call { callee := .builtin .append, args := #[s, x], argTypes := #[t, t] })
    (base : Nat) (e : TypeId) (i : TypeInfo) (ht : P.underlying t = some (.slice e)) (hi : P.info? e = some i) (hsize : i.size = 1)
    (g n cap : Nat) (xs : List Value) (hs : a.eval s = .slice (some ⟨g, 0, none⟩) n cap) (hown : w.ownsRow base e 1 (.slice (some ⟨g, 0, none⟩) n cap) n xs)
    (ao : Option Addr) (m c : Nat) (news : List Value) (hx : a.eval x = .slice ao m c) (hnone : ao = none → m = 0 ∧ c = 0) (hl : news.length = m)
    (hnews : ∀ ad, ao = some ad → ∀ j u, news[j]? = some u → w.cell? (ad.add j) = some u) (h1 : ∀ u ∈ news, u.oneCell' = true) (hroom : n + m ≤ cap)
    (h : ∀ w', w'.ownsRow base e 1 (.slice (some ⟨g, 0, none⟩) (n + m) cap) (n + m) (xs ++ news) → w.grownBy w' (some g) → wpList P ops Q rest (a.put o.dst (.slice (some ⟨g, 0, none⟩) (n + m) cap)) w') : wpList P ops Q (o :: rest) a w := by
  cases ao with
  | none =>
    obtain ⟨rfl, rfl⟩ := hnone rfl
    have hnil : news = [] := List.eq_nil_of_length_eq_zero hl
    subst hnil
    refine wpList_append_own_none hgd s x t ho base e i 1 ht hi _ n xs hs hown hx ?_
    exact h w (by simpa using hown) (World.grownBy.refl w _)
  | some ad =>
    exact wpList_append_fits w hgd s x t ho base e i 1 ht hi hsize g n cap xs hs hown ad m c news hx (by omega) (hnews ad rfl) h1 hroom h
end Go.Proofs.YtijimcjmpeakpaaGreat

namespace Go.Proofs.YtijimcjmpeakpaaGreat
open Go.RowKit
set_option linter.unusedVariables false
set_option maxRecDepth 100000
theorem BRow.news {w : World} {ao : Option Addr} {cap : Nat} {l : List Nat} (h : BRow w ao cap l) : ∀ ad, ao = some ad → ∀ j u, (l.map bv)[j]? = some u → w.cell? (ad.add j) = some u := by
  intro ad e j u hu
  subst e
  rw [List.getElem?_map] at hu
  by_cases hj : j < l.length
  · rw [List.getElem?_eq_getElem hj] at hu
    obtain ⟨b, off, e, hc⟩ := h.at_ (by rintro rfl; simp at hj)
    cases e
    simp only [Option.map_some, Option.some.injEq] at hu
    subst hu
    rw [add_plain]; exact hc j hj
  · rw [List.getElem?_eq_none (by omega)] at hu; simp at hu
theorem bv_one (l : List Nat) : ∀ u ∈ l.map bv, u.oneCell' = true := by
  intro u hu
  obtain ⟨x, _, rfl⟩ := List.mem_map.1 hu
  rfl
theorem BRow.nil' {w : World} {ao : Option Addr} {cap : Nat} {l : List Nat} (h : BRow w ao cap l) : ao = none → l.length = 0 ∧ cap = 0 := fun e => ⟨by rw [(h.nil e).1]; rfl, (h.nil e).2⟩


set_option maxHeartbeats 1000000 in
theorem clone_some (ad : Addr) (cap n : Nat) (l : List Nat) (w : World) (h : BRow w (some ad) cap l) (HN : Hid (l.length = n)) (hn : n ≤ 140737488351232) :
    Calls Tryz.prog 47 #[.slice (some ad) n cap] w fun e w' => ∃ v, e = .returned v ∧ w'.ownsRow w.heap.size 5 1 v n (l.map bv) ∧ Below w.heap.size w w' := by
  obtain ⟨i0, hi, hz0, hz1, hz2⟩ := info_parts Tryz.info5
  have he : ∀ w : World, (binOp .eql 80 (.slice (some ad) n cap) (.slice none 0 0)).run Tryz.prog w = .ok (.bool false) w := fun w => Lib.run_eql_slice_nil w 80 5 (some ad) n cap 0 0 Tryz.underlying80
  have HB : Hid (∀ o, BRow (w.alloc o) (some ad) cap l) := fun o => h.later ((Below.refl _ _).alloc (Nat.le_refl _) o)
  have HO : Hid ((w.alloc (.cells #[] 5)).ownsRow w.heap.size 5 1 (.slice (some ⟨w.heap.size, 0, none⟩) 0 0) 0 []) :=
    World.ownsRow_lit w #[] 0 (Nat.le_refl _) (Nat.zero_le _) rfl
  clear h
  go_enter Tryz.func47, Tryz.ntmps47
  go_wp2_with (at_builtin; refine wpList_append_two _ rfl (.tmp 5) (.tmp 6) 80 rfl w.heap.size 5 i0 (.int .u8 0) 1 Tryz.underlying80 hi hz0 hz1 hz2 rfl _ 0 [] rfl HO.out (some ad) n cap (l.map bv) rfl (by simp) (by rw [List.length_map]; exact HN.out) (HB.out _).news (bv_one l) (by unfold maxLen; omega) (by omega) (by simp) ?_)
  intro v' w1 ho hg hf
  have hb : Below w.heap.size w w1 := ((Below.refl _ _).alloc (Nat.le_refl _) _).grown hg (by simp) (by intro k hk; simp [Value.ownBlock] at hk; omega)
  clear hg hf
  go_wp2
  go_ret
  exact ⟨_, rfl, ho, hb⟩
end Go.Proofs.YtijimcjmpeakpaaGreat

namespace Go.Proofs.YtijimcjmpeakpaaGreat.K
open Go.RowKit Go.Maps Go.Proofs.YtijimcjmpeakpaaGreat Go.MuLone
attribute [local go_sem] Oper.semAt_some
set_option linter.unusedVariables false
set_option linter.unusedSimpArgs false
set_option maxRecDepth 100000

def readS (S : Dk) : Dk := { S with st := { S.st with reads := inc S.st.reads } }
theorem look_ok {w : World} {lk : Int} {b ms ml : Nat} {qv fv : Value} {S : Dk} (h : RK w lk b ms ml qv fv S) {s : Nat} (hs : s < S.n) : OkB (look S s) := by
  unfold look
  cases hl : lastQ s S.q with
  | none => obtain ⟨D, _, hso⟩ := h.sm; exact hso.ok s hs
  | some l => obtain ⟨i, hi, _⟩ := lastQ_some hl; exact (h.qok _ (List.mem_of_getElem? hi)).2
theorem sectors_any {w : World} {b ms ml : Nat} {qv fv : Value} {S : Dk} (h : RK w 0 b ms ml qv fv S) :
    Calls Tryz.prog 36 #[.pointer (some ⟨b, 0, none⟩)] w fun r w' => r = .returned (.int .i64 S.n) ∧ DAct w w' 0 b ms ml ms ml qv fv qv fv S := by
  have hus := usable_any h
  have c0 : w.cell? ⟨b, 0, none⟩ = some (.int .i32 0) := h.c 0
  have z0 := h.fz 0
  have a1 := (DAct.refl h).put 0 (.int .i32 1) 1 S.st rfl
  have HA1 : Hid (DAct w (w.setCell ⟨b, 0, none⟩ (.int .i32 1)) 1 b ms ml ms ml qv fv qv fv S) := a1
  have c2 : (w.setCell ⟨b, 0, none⟩ (.int .i32 1)).cell? ⟨b, 2, none⟩ = some (.int .i64 S.n) := a1.rk.c 2
  clear a1 h
  go_enter_defers Tryz.func36, Tryz.ntmps36
  go_wp2_with (first | (go_at_call 60; refine hus.mono ?_; rintro e w9 ⟨rfl, hw9⟩; rw [hw9]; clear hw9 hus) | (go_at_call 61; refine (lock_free Tryz.muLib ⟨b, 0, none⟩ _ c0 z0).mono ?_; rintro e w9 ⟨rfl, hw9⟩; rw [hw9]; clear hw9))
  refine leaves_cons (f := 62) (args := #[.pointer (some ⟨b, 0, none⟩)]) (by simp) (by simp [go_sem]) ?_
  refine (unlock_deferred Tryz.muLib ⟨b, 0, none⟩ .returning _ (HA1.out.rk.c 0) (HA1.out.rk.fz 0)).mono ?_
  rintro e u' w'' ⟨rfl, rfl, rfl⟩
  exact ⟨_, results_tmp rfl _ _ _, rfl, HA1.out.put 0 (.int .i32 0) 0 S.st rfl⟩
theorem stats_any {w : World} {b ms ml : Nat} {qv fv : Value} {S : Dk} (h : RK w 0 b ms ml qv fv S) :
    Calls Tryz.prog 153 #[.pointer (some ⟨b, 0, none⟩)] w fun r w' => r = .returned (.agg #[.int .u64 S.st.reads, .int .u64 S.st.writes, .int .u64 S.st.bars, .int .u64 S.st.failed, .int .u64 S.st.crashes]) ∧ DAct w w' 0 b ms ml ms ml qv fv qv fv S := by
  obtain ⟨W0, hW0⟩ : ∃ W0, W0 = w.alloc (.cells #[.int .u64 0, .int .u64 0, .int .u64 0, .int .u64 0, .int .u64 0] 61) := ⟨_, rfl⟩
  have hB0 : Below w.heap.size w W0 := by rw [hW0]; exact (Below.refl _ w).alloc (Nat.le_refl _) _
  have h0 := h.later hB0
  have hbx : W0.heap[w.heap.size]? = some (.cells #[.int .u64 0, .int .u64 0, .int .u64 0, .int .u64 0, .int .u64 0] 61) := by rw [hW0]; exact heap_alloc_new w _
  have hne : b ≠ w.heap.size := by have := h.lt b (by simp [fp]); omega
  have hus := usable_any h0
  have c0 : W0.cell? ⟨b, 0, none⟩ = some (.int .i32 0) := h0.c 0
  have z0 := h0.fz 0
  have a1 := ((DAct.refl h0).put 0 (.int .i32 1) 1 S.st rfl).from_later hB0
  have HA1 : Hid (DAct w (W0.setCell ⟨b, 0, none⟩ (.int .i32 1)) 1 b ms ml ms ml qv fv qv fv S) := a1
  have k7 : (W0.setCell ⟨b, 0, none⟩ (.int .i32 1)).cell? ⟨b, 7, none⟩ = some (.int .u64 S.st.reads) := a1.rk.c 7
  have k8 : (W0.setCell ⟨b, 0, none⟩ (.int .i32 1)).cell? ⟨b, 8, none⟩ = some (.int .u64 S.st.writes) := a1.rk.c 8
  have k9 : (W0.setCell ⟨b, 0, none⟩ (.int .i32 1)).cell? ⟨b, 9, none⟩ = some (.int .u64 S.st.bars) := a1.rk.c 9
  have k10 : (W0.setCell ⟨b, 0, none⟩ (.int .i32 1)).cell? ⟨b, 10, none⟩ = some (.int .u64 S.st.failed) := a1.rk.c 10
  have k11 : (W0.setCell ⟨b, 0, none⟩ (.int .i32 1)).cell? ⟨b, 11, none⟩ = some (.int .u64 S.st.crashes) := a1.rk.c 11
  have HBx : Hid ((W0.setCell ⟨b, 0, none⟩ (.int .i32 1)).heap[w.heap.size]? = some (.cells #[.int .u64 0, .int .u64 0, .int .u64 0, .int .u64 0, .int .u64 0] 61)) := (Below.heap_setCell _ _ _ _ (Ne.symm hne)).trans hbx
  have HFin : Hid (∀ v0 v1 v2 v3 v4 : Value, DAct w ((((((W0.setCell ⟨b, 0, none⟩ (.int .i32 1)).setCell ⟨w.heap.size, 0, none⟩ v0).setCell ⟨w.heap.size, 1, none⟩ v1).setCell ⟨w.heap.size, 2, none⟩ v2).setCell ⟨w.heap.size, 3, none⟩ v3).setCell ⟨w.heap.size, 4, none⟩ v4) 1 b ms ml ms ml qv fv qv fv S ∧ ((((((W0.setCell ⟨b, 0, none⟩ (.int .i32 1)).setCell ⟨w.heap.size, 0, none⟩ v0).setCell ⟨w.heap.size, 1, none⟩ v1).setCell ⟨w.heap.size, 2, none⟩ v2).setCell ⟨w.heap.size, 3, none⟩ v3).setCell ⟨w.heap.size, 4, none⟩ v4).heap[w.heap.size]? = some (.cells #[v0, v1, v2, v3, v4] 61)) := fun v0 v1 v2 v3 v4 => by
    have hlt := h.lt
    have hk : ∀ {X : World} (j : Nat) (v : Value), DAct w X 1 b ms ml ms ml qv fv qv fv S → DAct w (X.setCell ⟨w.heap.size, j, none⟩ v) 1 b ms ml ms ml qv fv qv fv S := fun {X} j v hX =>
      ⟨hX.rk.same (fun i hi => Below.heap_setCell _ _ _ _ (by have := hlt i hi; show i ≠ w.heap.size; omega)), hX.kp.set (.inr (Nat.le_refl _)) _ _, hX.sub⟩
    refine ⟨hk _ _ (hk _ _ (hk _ _ (hk _ _ (hk _ _ HA1.out)))), ?_⟩
    have e0 := blk_set HBx.out 0 v0
    have e1 := blk_set e0 1 v1
    have e2 := blk_set e1 2 v2
    have e3 := blk_set e2 3 v3
    have e4 := blk_set e3 4 v4
    exact e4
  have hi5 : (Tryz.prog.info? 61).map (·.size) = some 5 := by kernel_rfl
  clear a1 h h0 hB0 hbx
  subst hW0
  go_enter_defers Tryz.func153, Tryz.ntmps153
  go_wp2_with (first | (go_at_call 60; refine hus.mono ?_; rintro e w9 ⟨rfl, hw9⟩; rw [hw9]; clear hw9 hus) | (go_at_call 61; refine (lock_free Tryz.muLib ⟨b, 0, none⟩ _ c0 z0).mono ?_; rintro e w9 ⟨rfl, hw9⟩; rw [hw9]; clear hw9))
  obtain ⟨q1, q2⟩ := HFin.out (.int .u64 S.st.reads) (.int .u64 S.st.writes) (.int .u64 S.st.bars) (.int .u64 S.st.failed) (.int .u64 S.st.crashes)
  refine leaves_cons (f := 62) (args := #[.pointer (some ⟨b, 0, none⟩)]) (by simp) (by simp [go_sem]) ?_
  refine (unlock_deferred Tryz.muLib ⟨b, 0, none⟩ .returning _ (q1.rk.c 0) (q1.rk.fz 0)).mono ?_
  rintro e u' w'' ⟨rfl, rfl, rfl⟩
  exact ⟨_, results_cell_row rfl _ _ w.heap.size 61 _ (0, 0) _ rfl ((Below.heap_setCell _ _ _ _ (Ne.symm hne)).trans q2) Tryz.underlying61 rfl hi5, rfl, q1.put 0 (.int .i32 0) 0 S.st rfl⟩
/-- the last write's place -/
theorem waits_any {w : World} {b ms ml : Nat} {qv fv : Value} {S : Dk} (h : RK w 0 b ms ml qv fv S) {s : Nat} (hs : s < S.n) :
    Calls Tryz.prog 65 #[.pointer (some ⟨b, 0, none⟩), .int .i64 s] w fun r w' => r = .returned (.bool (lastQ s S.q).isSome) ∧ DAct w w' 0 b ms ml ms ml qv fv qv fv S := by
  have hus := usable_any h
  have c0 : w.cell? ⟨b, 0, none⟩ = some (.int .i32 0) := h.c 0
  have z0 := h.fz 0
  have a1 := (DAct.refl h).put 0 (.int .i32 1) 1 S.st rfl
  have HA1 : Hid (DAct w (w.setCell ⟨b, 0, none⟩ (.int .i32 1)) 1 b ms ml ms ml qv fv qv fv S) := a1
  have c5 : (w.setCell ⟨b, 0, none⟩ (.int .i32 1)).cell? ⟨b, 5, none⟩ = some (.map (some ml)) := a1.rk.c 5
  have hk : keyOf Tryz.prog TIn (.int .i64 s) = some (kl s) := keyOf_int_mk Tryz.underlying3 (wfI s (by have := h.n1; omega))
  obtain ⟨Dl, hml, hlo⟩ := a1.rk.lm
  obtain ⟨v, ps, hlk, hv⟩ := hml.look_ok keyed Tryz.underlying58 (Tryz.zeroValue3 _) (plainElem_int Tryz.underlying3 (a := 0) (by decide)) hk
  obtain ⟨c, rfl, hc, hwc⟩ := plainElem_int_inv Tryz.underlying3 hv
  have hh : Maps.has Dl (kl s) = (lastQ s S.q).isSome := by
    cases hl : lastQ s S.q with
    | none => exact hlo.no s (lastQ_none hl)
    | some l => obtain ⟨i, _, hla⟩ := lastQ_some hl; exact (hlo.yes s i hla).2
  rw [hh] at hlk
  generalize (lastQ s S.q).isSome = yes at *
  clear a1 h hk hml hlo hv hc hwc hh hs
  go_enter_defers Tryz.func65, Tryz.ntmps65
  go_wp2_with (first | (go_at_call 60; refine hus.mono ?_; rintro e w9 ⟨rfl, hw9⟩; rw [hw9]; clear hw9 hus) | (go_at_call 61; refine (lock_free Tryz.muLib ⟨b, 0, none⟩ _ c0 z0).mono ?_; rintro e w9 ⟨rfl, hw9⟩; rw [hw9]; clear hw9))
  refine leaves_cons (f := 62) (args := #[.pointer (some ⟨b, 0, none⟩)]) (by simp) (by simp [go_sem]) ?_
  refine (unlock_deferred Tryz.muLib ⟨b, 0, none⟩ .returning _ (HA1.out.rk.c 0) (HA1.out.rk.fz 0)).mono ?_
  rintro e u' w'' ⟨rfl, rfl, rfl⟩
  exact ⟨_, results_tmp rfl _ _ _, rfl, HA1.out.put 0 (.int .i32 0) 0 S.st rfl⟩
end Go.Proofs.YtijimcjmpeakpaaGreat.K
