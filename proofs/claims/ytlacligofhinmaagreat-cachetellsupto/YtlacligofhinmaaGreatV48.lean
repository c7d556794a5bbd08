import Derived.Test.YtlacligofhinmaaGreatV39
import Derived.Test.YtlacligofhinmaaGreatV47
namespace Go.Proofs.YtlacligofhinmaaGreat.C
open Go.RowKit Go.Maps Go.Shelf Go.Proofs.YtlacligofhinmaaGreat
attribute [local go_sem] Oper.semAt_some
set_option linter.unusedVariables false
set_option linter.unusedSimpArgs false
set_option maxRecDepth 100000

abbrev TIs : TypeId := 39
/-- numbers that were handed in -/
def ArgI (w : World) (v : Value) (ks : List Int) : Prop := (v = .slice none 0 0 ∧ ks = []) ∨ ∃ ad c, v = .slice (some ad) ks.length c ∧ IRd w (some ad) ks
def icells (ks : List Int) : List Value := ks.map (fun k => .int .i64 k)
theorem IRd.later {w w' : World} {ao : Option Addr} {ks : List Int} (h : IRd w ao ks) (hb : Below w.heap.size w w') : IRd w' ao ks := fun k x hk => by
  obtain ⟨g, off, e, h1, h2⟩ := h k x hk
  exact ⟨g, off, e, Nat.lt_of_lt_of_le h1 hb.size, (World.cell?_of_block (a := ⟨g, off + k, none⟩) (hb.block g h1)).trans h2⟩
theorem IRd.low {w w' : World} {n0 : Nat} {ao : Option Addr} {ks : List Int} (h : IRd w ao ks) (hb : Below n0 w w') (hl : ks ≠ [] → ∀ g off, ao = some ⟨g, off, none⟩ → g < n0) : IRd w' ao ks := fun k x hk => by
  obtain ⟨g, off, e, h1, h2⟩ := h k x hk
  have hne : ks ≠ [] := by rintro rfl; simp at hk
  exact ⟨g, off, e, Nat.lt_of_lt_of_le h1 hb.size, (World.cell?_of_block (a := ⟨g, off + k, none⟩) (hb.block g (hl hne g off e))).trans h2⟩
theorem ArgI.rd {w : World} {ao : Option Addr} {c n : Nat} {ks : List Int} (h : ArgI w (.slice ao n c) ks) : n = ks.length ∧ IRd w ao ks := by
  rcases h with ⟨e, rfl⟩ | ⟨ad, c', e, h⟩
  · cases e; exact ⟨rfl, fun k x hk => by simp at hk⟩
  · cases e; exact ⟨rfl, h⟩
theorem ArgI.later {w w' : World} {v : Value} {ks : List Int} (h : ArgI w v ks) (hb : Below w.heap.size w w') : ArgI w' v ks := by
  rcases h with h | ⟨ad, c', e, h⟩
  · exact .inl h
  · exact .inr ⟨ad, c', e, h.later hb⟩
theorem irow {w : World} {B n c : Nat} {ao : Option Addr} {ks : List Int} (h : w.ownsRow B TIn 1 (.slice ao n c) n (icells ks)) (hn : n = ks.length) : ∀ j y, ks[j]? = some y → ∃ g, ao = some ⟨g, 0, none⟩ ∧ B ≤ g ∧ g < w.heap.size ∧ w.cell? ⟨g, j, none⟩ = some (.int .i64 y) := fun j y hj => by
  have hl := (List.getElem?_eq_some_iff.1 hj).1
  have hr := h
  rcases h.2 with ⟨e, h0⟩ | ⟨g, cap, cur, e, hb, hg, _⟩
  · omega
  · cases e
    refine ⟨g, rfl, hb, (Array.getElem?_eq_some_iff.1 hg).1, ?_⟩
    rw [hr.cellAt j (by omega), icells, List.getElem?_map, hj]
    rfl
theorem wpList_append_in {w : World} {ops : Array Oper} {rest : List Oper} {o : Oper} {a : Act} {Q : Exit → Act → World → Prop} (hgd : o.guard = none) (s x : Operand)
    (ho : o.op = .call { callee := .builtin .append, args := #[s, x], argTypes := #[TIs, TIs] }) (base : Nat) (v : Value) (n : Nat) (xs : List Value) (hs : a.eval s = v) (hown : w.ownsRow base TIn 1 v n xs)
    (vx : Value) (l : List Int) (hx : a.eval x = vx) (hsl : ArgI w vx l) (hlen : n + l.length ≤ 8796093022207) (hbase : base ≤ w.heap.size)
    (h : ∀ v' w', w'.ownsRow base TIn 1 v' (n + l.length) (xs ++ icells l) → w.grownBy w' v.ownBlock → wpList Tryz.prog ops Q rest (a.put o.dst v') w') : wpList Tryz.prog ops Q (o :: rest) a w := by
  obtain ⟨i0, hi, hz0, hz1, hz2⟩ := info_parts I.A.infoKey
  rcases hsl with ⟨rfl, rfl⟩ | ⟨ad, c, rfl, hR⟩
  · refine wpList_append_own_none hgd s x TIs ho base TIn i0 1 Tryz.underlying39 hi v n xs hs hown hx (h v w ?_ ⟨rfl, rfl, rfl, Nat.le_refl _, fun _ _ _ => rfl⟩)
    simpa [icells] using hown
  · refine wpList_append_own _ hgd s x TIs ho base TIn i0 _ 1 8 Tryz.underlying39 hi hz0 hz1 hz2 rfl (by decide) v n xs hs hown _ l.length c (icells l) hx (by simp [icells]) (fun j u hu => ?_) (fun u hu => ?_) (by unfold maxLen; omega) (by omega) hbase (fun v' w' h1 h2 _ => h v' w' h1 h2)
    · rw [icells, List.getElem?_map] at hu
      obtain ⟨y, hy, rfl⟩ := Option.map_eq_some_iff.1 hu
      obtain ⟨g, off, e, _, h2⟩ := hR j y hy
      cases e
      rw [add_plain]
      exact h2
    · simp only [icells, List.mem_map] at hu
      obtain ⟨y, _, rfl⟩ := hu
      rfl
set_option maxHeartbeats 8000000 in
theorem ch_through {n0 x : Nat} {W : World} {P : Loc} {A : Qa} {S : K.Dk} {C : Ch} (h : Pq n0 W x P A S C S C) (hN : A.pot C + 2 < 1048576) (m k : Int) (v : Value) (osec : Int) (ofill : Nat) (omore : Int) (olo : Option Addr) (oln olc : Nat) (fk fsec fa ft : Int) (fl : Bool) (oko : Option Addr) (okn okc : Nat) {ks : List Int} (hks : ks.length ≤ 1048576) (hv : ArgI W (.slice olo oln olc) ks) (hlo : ks ≠ [] → ∀ g off, olo = some ⟨g, off, none⟩ → g < n0) :
    Calls Tryz.prog 11 #[.pointer (some ⟨x, 0, none⟩), .agg #[.int .i64 m, .int .i64 k, v], .agg #[.int .i64 4, .int .i64 osec, .int .u8 ofill, .int .i64 omore, .slice olo oln olc, .int .i64 fk, .int .i64 fsec, .int .i64 fa, .int .i64 ft, .bool fl, .slice oko okn okc]] W (ChP n0 W x S.n (A.pot C + 2)) := by
  obtain ⟨W0, hW0⟩ : ∃ W0, W0 = (W.alloc (.cells #[.int .i64 m, .int .i64 k, v] TSe)).alloc (.cells #[.int .i64 4, .int .i64 osec, .int .u8 ofill, .int .i64 omore, .slice olo oln olc, .int .i64 fk, .int .i64 fsec, .int .i64 fa, .int .i64 ft, .bool fl, .slice oko okn okc] TOp) := ⟨_, rfl⟩
  have HF0 : Hid (Pf n0 W W0 x #[.int .i64 m, .int .i64 k, v] #[.int .i64 4, .int .i64 osec, .int .u8 ofill, .int .i64 omore, .slice olo oln olc, .int .i64 fk, .int .i64 fsec, .int .i64 fa, .int .i64 ft, .bool fl, .slice oko okn okc] P A S C S C) := by rw [hW0]; exact Pf.new h _ _
  have HW0 : Hid (W0 = (W.alloc (.cells #[.int .i64 m, .int .i64 k, v] TSe)).alloc (.cells #[.int .i64 4, .int .i64 osec, .int .u8 ofill, .int .i64 omore, .slice olo oln olc, .int .i64 fk, .int .i64 fsec, .int .i64 fa, .int .i64 ft, .bool fl, .slice oko okn okc] TOp)) := hW0
  have HQ : Hid (S.q.length + dirtyN C.L ≤ A.pot C) := h.rq.qlen
  have HFs : Hid (K.FsOk S.fs) := h.rq.fs
  have hln : oln = ks.length := hv.rd.1
  have HV : Hid (ArgI W0 (.slice olo oln olc) ks) := by
    refine hv.later ?_
    rw [hW0]; exact ((Below.refl _ W).alloc (Nat.le_refl _) _).alloc (by simp) _
  have HLo : Hid (ks ≠ [] → ∀ g off, olo = some ⟨g, off, none⟩ → g < n0) := hlo
  have HRd : Hid (IRd W olo ks) := hv.rd.2
  have HAl : Hid (∀ i ∈ A.fp, i < W0.heap.size ∧ n0 ≤ i) := fun i hi => ⟨HF0.out.pq.rq.lt i hi, HF0.out.pq.lq i hi⟩
  have HPl : Hid (∀ i ∈ P.fp C.L, i < W0.heap.size) := HF0.out.pq.rc.lt
  have HV0 : Hid (ArgI ((W.alloc (.cells #[.int .i64 m, .int .i64 k, v] TSe)).alloc (.cells #[.int .i64 4, .int .i64 osec, .int .u8 ofill, .int .i64 omore, .slice olo oln olc, .int .i64 fk, .int .i64 fsec, .int .i64 fa, .int .i64 ft, .bool fl, .slice oko okn okc] TOp)) (.slice olo oln olc) ks) := by rw [← hW0]; exact HV
  have HL : Hid (oln = ks.length) := hln
  clear hv hlo hln
  clear h hW0
  go_enter Tryz.func11, Tryz.ntmps11
  go_wp2_with (first | (at_builtin; refine wpList_append_in rfl _ _ rfl ((W.alloc (.cells #[.int .i64 m, .int .i64 k, v] TSe)).alloc (.cells #[.int .i64 4, .int .i64 osec, .int .u8 ofill, .int .i64 omore, .slice olo oln olc, .int .i64 fk, .int .i64 fsec, .int .i64 fa, .int .i64 ft, .bool fl, .slice oko okn okc] TOp)).heap.size (.slice none 0 0) 0 [] rfl (World.ownsRow_nil _ _ _ _) _ ks rfl HV0.out (by omega) (Nat.le_refl _) ?_; intro v1 W1 h1 hg1; have HR1 : Hid (W1.ownsRow W0.heap.size TIn 1 v1 oln (icells ks)) := (by show World.ownsRow _ _ _ _ _ _ _; rw [HW0.out, HL.out]; simpa using h1); have HB1 : Hid (Below W0.heap.size W0 W1) := (by rw [HW0.out]; exact (Below.refl _ _).grown hg1 (Nat.le_refl _) (fun q e => by cases e)); have HF1 : Hid (Pf n0 W W1 x #[.int .i64 m, .int .i64 k, v] #[.int .i64 4, .int .i64 osec, .int .u8 ofill, .int .i64 omore, .slice olo oln olc, .int .i64 fk, .int .i64 fsec, .int .i64 fa, .int .i64 ft, .bool fl, .slice oko okn okc] P A S C S C) := HF0.out.later HB1.out; have z1 := HF1.out.c1; obtain ⟨a1, c1, hv1⟩ := K.own_slice HR1.out; subst hv1; have HRo : Hid (∀ j y, ks[j]? = some y → ∃ g, a1 = some ⟨g, 0, none⟩ ∧ W0.heap.size ≤ g ∧ g < W1.heap.size ∧ W1.cell? ⟨g, j, none⟩ = some (.int .i64 y)) := irow HR1.out HL.out; clear h1 hg1))
  refine (through_c HF1.out.pq.rc HFs.out (by have := HQ.out; omega) (ao := a1) (m := oln) (cap := c1) (ks := ks) HL.out (by rw [HL.out]; exact hks) (fun j y hj => ?_)).mono ?_
  · obtain ⟨g, e, h1, h2, h3⟩ := HRo.out j y hj
    exact ⟨g, 0, e, h2, fun hm => by have := HPl.out _ hm; omega, by rw [Nat.zero_add]; exact h3⟩
  rintro r W2 ⟨rfl, P2, ha2⟩
  have HF2 : Hid (Pf n0 W W2 x #[.int .i64 m, .int .i64 k, v] #[.int .i64 4, .int .i64 osec, .int .u8 ofill, .int .i64 omore, .slice olo oln olc, .int .i64 fk, .int .i64 fsec, .int .i64 fa, .int .i64 ft, .bool fl, .slice oko okn okc] P2 A (throughR S C ks).2.1 (throughR S C ks).2.2 S C) := HF1.out.actC ha2
  have HFe : Hid (Pf n0 W W2.drew x #[.int .i64 m, .int .i64 k, v] #[.int .i64 4, .int .i64 osec, .int .u8 ofill, .int .i64 omore, .slice olo oln olc, .int .i64 fk, .int .i64 fsec, .int .i64 fa, .int .i64 ft, .bool fl, .slice oko okn okc] P2 A (throughR S C ks).2.1 (throughR S C ks).2.2 S C) := HF2.out.later (K.below_drew W2)
  have HO2 : Hid (∀ j y, ks[j]? = some y → ∃ g, a1 = some ⟨g, 0, none⟩ ∧ W0.heap.size ≤ g ∧ g < W2.heap.size ∧ W2.cell? ⟨g, j, none⟩ = some (.int .i64 y)) := fun j y hj => by
    obtain ⟨g, e, h1, h2, h3⟩ := HRo.out j y hj
    exact ⟨g, e, h1, Nat.lt_of_lt_of_le h2 ha2.kp.size, (World.cell?_of_block (a := ⟨g, j, none⟩) (ha2.kp.block g h2 (fun hm => by have := HPl.out _ hm; omega))).trans h3⟩
  have HA2 : Hid (W0.heap.size ≤ W2.heap.size) := Nat.le_trans HB1.out.size ha2.kp.size
  have z0 : W2.cell? ⟨x, 3, none⟩ = some (.pointer (some ⟨A.q, 0, none⟩)) ∧ W2.cell? ⟨W.heap.size + 1, 4, none⟩ = some (.slice olo oln olc) := ⟨HF2.out.c3, (HF2.out.ocell 4).trans rfl⟩
  have zd : W2.drew.cell? ⟨x, 3, none⟩ = some (.pointer (some ⟨A.q, 0, none⟩)) ∧ W2.drew.cell? ⟨W.heap.size + 1, 4, none⟩ = some (.slice olo oln olc) := ⟨HFe.out.c3, (HFe.out.ocell 4).trans rfl⟩
  have hfR := rthrough_any HFe.out.pq.rq (by omega) (ao := olo) (m := oln) (cap := olc) (ks := ks) HL.out (by rw [HL.out]; exact hks) (fun j y hj => by
    obtain ⟨g, off, e, h1, h2⟩ := (HRd.out.low HFe.out.bl HLo.out) j y hj
    have hne : ks ≠ [] := by rintro rfl; simp at hj
    exact ⟨g, off, e, h1, fun hm => by have h3 := (HAl.out g hm).2; have h4 := HLo.out hne g off e; omega, h2⟩)
  clear ha2 z1
  go_wp2_with fail
  go_region_held3 (fun w' => w'.cell? ⟨x, 3, none⟩ = some (.pointer (some ⟨A.q, 0, none⟩)) ∧ w'.cell? ⟨W.heap.size + 1, 4, none⟩ = some (.slice olo oln olc)) (first | exact z0 | exact zd | exact HZ3.out | go_keep) (first | (go_at_call 30; refine hfR.mono ?_; rintro r W3 ⟨rfl, A3, hq3⟩; have HF3 : Hid (Pf n0 W W3 x #[.int .i64 m, .int .i64 k, v] #[.int .i64 4, .int .i64 osec, .int .u8 ofill, .int .i64 omore, .slice olo oln olc, .int .i64 fk, .int .i64 fsec, .int .i64 fa, .int .i64 ft, .bool fl, .slice oko okn okc] P2 A3 (throughR S C ks).2.1 (throughR S C ks).2.2 (throughR S C ks).2.1 (throughR S C ks).2.2) := HFe.out.actQ hq3; have HZ3 : Hid (W3.cell? ⟨x, 3, none⟩ = some (.pointer (some ⟨A.q, 0, none⟩)) ∧ W3.cell? ⟨W.heap.size + 1, 4, none⟩ = some (.slice olo oln olc)) := ⟨by rw [← hq3.q]; exact HF3.out.c3, (HF3.out.ocell 4).trans rfl⟩; have HPt : Hid (A3.pot (throughR S C ks).2.2 ≤ A.pot C + 2) := Nat.le_trans hq3.pot (by omega); have HO3 : Hid (∀ j y, ks[j]? = some y → ∃ g, a1 = some ⟨g, 0, none⟩ ∧ g < W3.heap.size ∧ W3.cell? ⟨g, j, none⟩ = some (.int .i64 y)) := (fun j y hj => by obtain ⟨g, e, h1, h2, h3⟩ := HO2.out j y hj; exact ⟨g, e, Nat.lt_of_lt_of_le h2 hq3.kp.size, (World.cell?_of_block (a := ⟨g, j, none⟩) (hq3.kp.block g h2 (fun hm => by have := (HAl.out g hm).1; omega))).trans h3⟩); clear hq3 hfR))
  clear z0 zd
  have HD3 : Hid (IRd W3 olo ks) := HRd.out.low HF3.out.bl HLo.out
  have HX3 : Hid (W3.cell? ⟨W.heap.size + 1, 4, none⟩ = some (.slice olo oln olc)) := HZ3.out.2
  clear HF0 HF1 HF2 HFe HO2 HZ3 HRd HRo HV HV0
  have ho : oln ≤ 1048576 := by rw [HL.out]; exact hks
  go_wp2
  go_loopw [23] (fun i wr => ∃ (j : Nat), j ≤ oln ∧ i = .int .i64 j ∧ Hid (Below W3.heap.size W3 wr)) (fun i _ => oln - (intOf i).toNat)
  case atStart => exact ⟨0, Nat.zero_le _, rfl, Below.refl _ _⟩
  case round =>
    obtain ⟨j, hj, rfl, HB⟩ := hrel
    by_cases hlt : j < oln
    · have hjz : (j : Int) < (oln : Int) := by omega
      obtain ⟨y, hy⟩ : ∃ y, ks[j]? = some y := ⟨_, List.getElem?_eq_getElem (by have := HL.out; omega)⟩
      obtain ⟨g, hae, h1, h2⟩ := HO3.out j y hy
      obtain ⟨b', o', hoe, h3, h4⟩ := HD3.out j y hy
      subst hae hoe
      have c0 := cell_later HB.out h2
      have c1 := cell_later HB.out h4
      have c2 := cell_later HB.out HX3.out
      clear h1 h2 h3 h4 hy HD3 HO3 HX3
      go_wp2
      go_quiet (fail)
      go_wp2
      go_roundw
      case rel => exact ⟨j + 1, by omega, by go_num, ⟨HB.out.os, HB.out.tape, HB.out.output, HB.out.size, HB.out.block⟩⟩
      case measure => simp [intOf]; omega
    · have hjz : ¬ (j : Int) < (oln : Int) := by omega
      go_wp2
      go_ret
      exact ⟨by simp, P2, A3, _, _, (HF3.out.later HB.out).pq, (HF3.out.later HB.out).bl, through_n S C ks, HPt.out⟩
end Go.Proofs.YtlacligofhinmaaGreat.C

namespace Go.Proofs.YtlacligofhinmaaGreat.C
open Go.RowKit Go.Maps Go.Shelf Go.Proofs.YtlacligofhinmaaGreat
attribute [local go_sem] Oper.semAt_some
set_option linter.unusedVariables false
set_option linter.unusedSimpArgs false
set_option maxRecDepth 100000

theorem faS_n (S : K.Dk) (f : K.Flt) : (K.faS S f).n = S.n := by
  unfold K.faS
  split <;> rfl
theorem crashed_ok (l : List Bool) (S : K.Dk) : K.FsOk (K.crashed l S).fs := ⟨by simp [K.crashed], by simp [K.crashed]⟩
theorem crashed_n (l : List Bool) (S : K.Dk) : (K.crashed l S).n = S.n := rfl
theorem ArgS.low {w w' : World} {n0 : Nat} {v : Value} {l : List (Int × Int)} (h : ArgS w v l) (hb : Below n0 w w') (hl : l ≠ [] → ∀ b' off n c, v = .slice (some ⟨b', off, none⟩) n c → b' < n0) : ArgS w' v l := by
  rcases h with h | ⟨ad, c', e, h⟩
  · exact .inl h
  · refine .inr ⟨ad, c', e, fun k p hk => ?_⟩
    obtain ⟨g, off, e2, h1, h2, h3⟩ := h k p hk
    have hne : l ≠ [] := by rintro rfl; simp at hk
    have hg := hb.block g (hl hne g off l.length c' (by rw [e, e2]))
    exact ⟨g, off, e2, Nat.lt_of_lt_of_le h1 hb.size, (World.cell?_of_block (a := ⟨g, off + k * 2, none⟩) hg).trans h2, (World.cell?_of_block (a := ⟨g, off + k * 2 + 1, none⟩) hg).trans h3⟩
theorem borow_low {w w' : World} {n0 : Nat} {ao : Option Addr} {cap : Nat} {l : List Bool} (h : K.BoRow w ao cap l) (hb : Below n0 w w') (hl : ∀ ad, ao = some ad → l ≠ [] → ad.block < n0) : K.BoRow w' ao cap l := by
  refine ⟨h.len, h.nil, fun hn => ?_⟩
  obtain ⟨b, off, e, hc⟩ := h.at_ hn
  exact ⟨b, off, e, fun k x hx => (World.cell?_of_block (a := ⟨b, off + k, none⟩) (hb.block b (hl _ e hn))).trans (hc k x hx)⟩
set_option maxHeartbeats 8000000 in
theorem ch_fault {n0 x : Nat} {W : World} {P : Loc} {A : Qa} {S : K.Dk} {C : Ch} (h : Pq n0 W x P A S C S C) (hN : A.pot C + 2 < 1048576) (m k : Int) (v : Value) (osec : Int) (ofill : Nat) (omore : Int) (olo : Option Addr) (oln olc : Nat) (fk fsec fa ft : Int) (fl : Bool) (oko : Option Addr) (okn okc : Nat) (hfa : K.I64 fa) (hft : K.I64 ft) :
    Calls Tryz.prog 11 #[.pointer (some ⟨x, 0, none⟩), .agg #[.int .i64 m, .int .i64 k, v], .agg #[.int .i64 12, .int .i64 osec, .int .u8 ofill, .int .i64 omore, .slice olo oln olc, .int .i64 fk, .int .i64 fsec, .int .i64 fa, .int .i64 ft, .bool fl, .slice oko okn okc]] W (ChP n0 W x S.n (A.pot C + 2)) := by
  obtain ⟨W0, hW0⟩ : ∃ W0, W0 = (W.alloc (.cells #[.int .i64 m, .int .i64 k, v] TSe)).alloc (.cells #[.int .i64 12, .int .i64 osec, .int .u8 ofill, .int .i64 omore, .slice olo oln olc, .int .i64 fk, .int .i64 fsec, .int .i64 fa, .int .i64 ft, .bool fl, .slice oko okn okc] TOp) := ⟨_, rfl⟩
  have HF0 : Hid (Pf n0 W W0 x #[.int .i64 m, .int .i64 k, v] #[.int .i64 12, .int .i64 osec, .int .u8 ofill, .int .i64 omore, .slice olo oln olc, .int .i64 fk, .int .i64 fsec, .int .i64 fa, .int .i64 ft, .bool fl, .slice oko okn okc] P A S C S C) := by rw [hW0]; exact Pf.new h _ _
  have HW0 : Hid (W0 = (W.alloc (.cells #[.int .i64 m, .int .i64 k, v] TSe)).alloc (.cells #[.int .i64 12, .int .i64 osec, .int .u8 ofill, .int .i64 omore, .slice olo oln olc, .int .i64 fk, .int .i64 fsec, .int .i64 fa, .int .i64 ft, .bool fl, .slice oko okn okc] TOp)) := hW0
  have HQ : Hid (S.q.length + dirtyN C.L ≤ A.pot C) := h.rq.qlen
  have HFs : Hid (K.FsOk S.fs) := h.rq.fs
  have HI : Hid (K.I64 fa ∧ K.I64 ft) := ⟨hfa, hft⟩
  clear hfa hft
  clear h hW0
  go_enter Tryz.func11, Tryz.ntmps11
  go_wp2_with fail
  rw [← HW0.out]
  have HFd : Hid (Pf n0 W W0.drew x #[.int .i64 m, .int .i64 k, v] #[.int .i64 12, .int .i64 osec, .int .u8 ofill, .int .i64 omore, .slice olo oln olc, .int .i64 fk, .int .i64 fsec, .int .i64 fa, .int .i64 ft, .bool fl, .slice oko okn okc] P A S C S C) := HF0.out.later (K.below_drew W0)
  have z0 : W0.cell? ⟨x, 0, none⟩ = some (.pointer (some ⟨P.bd, 0, none⟩)) ∧ W0.cell? ⟨x, 2, none⟩ = some (.pointer (some ⟨A.p, 0, none⟩)) ∧ W0.cell? ⟨W.heap.size + 1, 5, none⟩ = some (.int .i64 fk) ∧ W0.cell? ⟨W.heap.size + 1, 6, none⟩ = some (.int .i64 fsec) ∧ W0.cell? ⟨W.heap.size + 1, 7, none⟩ = some (.int .i64 fa) ∧ W0.cell? ⟨W.heap.size + 1, 8, none⟩ = some (.int .i64 ft) ∧ W0.cell? ⟨W.heap.size + 1, 9, none⟩ = some (.bool fl) := ⟨HF0.out.c0, HF0.out.c2, (HF0.out.ocell 5).trans rfl, (HF0.out.ocell 6).trans rfl, (HF0.out.ocell 7).trans rfl, (HF0.out.ocell 8).trans rfl, (HF0.out.ocell 9).trans rfl⟩
  have zd : W0.drew.cell? ⟨x, 0, none⟩ = some (.pointer (some ⟨P.bd, 0, none⟩)) ∧ W0.drew.cell? ⟨x, 2, none⟩ = some (.pointer (some ⟨A.p, 0, none⟩)) ∧ W0.drew.cell? ⟨W.heap.size + 1, 5, none⟩ = some (.int .i64 fk) ∧ W0.drew.cell? ⟨W.heap.size + 1, 6, none⟩ = some (.int .i64 fsec) ∧ W0.drew.cell? ⟨W.heap.size + 1, 7, none⟩ = some (.int .i64 fa) ∧ W0.drew.cell? ⟨W.heap.size + 1, 8, none⟩ = some (.int .i64 ft) ∧ W0.drew.cell? ⟨W.heap.size + 1, 9, none⟩ = some (.bool fl) := ⟨HFd.out.c0, HFd.out.c2, (HFd.out.ocell 5).trans rfl, (HFd.out.ocell 6).trans rfl, (HFd.out.ocell 7).trans rfl, (HFd.out.ocell 8).trans rfl, (HFd.out.ocell 9).trans rfl⟩
  have hfD := K.fault_gen HFd.out.pq.rc.rk HFs.out ⟨fk, fsec, fa, ft, fl⟩
  go_region_held3 (fun w' => w'.cell? ⟨x, 0, none⟩ = some (.pointer (some ⟨P.bd, 0, none⟩)) ∧ w'.cell? ⟨x, 2, none⟩ = some (.pointer (some ⟨A.p, 0, none⟩)) ∧ w'.cell? ⟨W.heap.size + 1, 5, none⟩ = some (.int .i64 fk) ∧ w'.cell? ⟨W.heap.size + 1, 6, none⟩ = some (.int .i64 fsec) ∧ w'.cell? ⟨W.heap.size + 1, 7, none⟩ = some (.int .i64 fa) ∧ w'.cell? ⟨W.heap.size + 1, 8, none⟩ = some (.int .i64 ft) ∧ w'.cell? ⟨W.heap.size + 1, 9, none⟩ = some (.bool fl)) (first | exact z0 | exact zd | exact HZ1.out | exact HZ2.out | go_keep) (first | (go_at_call 33; refine hfD.mono ?_; rintro r W1 ⟨rfl, fv1, hd1⟩; have ha1 := HFd.out.pq.rc.disk (faS_n S ⟨fk, fsec, fa, ft, fl⟩) hd1; have HF1 : Hid (Pf n0 W W1 x #[.int .i64 m, .int .i64 k, v] #[.int .i64 12, .int .i64 osec, .int .u8 ofill, .int .i64 omore, .slice olo oln olc, .int .i64 fk, .int .i64 fsec, .int .i64 fa, .int .i64 ft, .bool fl, .slice oko okn okc] { P with ms := P.ms, ml := P.ml, qv := P.qv, fv := fv1 } A (K.faS S ⟨fk, fsec, fa, ft, fl⟩) C S C) := HFd.out.actC ha1; have HZ1 : Hid (W1.cell? ⟨x, 0, none⟩ = some (.pointer (some ⟨P.bd, 0, none⟩)) ∧ W1.cell? ⟨x, 2, none⟩ = some (.pointer (some ⟨A.p, 0, none⟩)) ∧ W1.cell? ⟨W.heap.size + 1, 5, none⟩ = some (.int .i64 fk) ∧ W1.cell? ⟨W.heap.size + 1, 6, none⟩ = some (.int .i64 fsec) ∧ W1.cell? ⟨W.heap.size + 1, 7, none⟩ = some (.int .i64 fa) ∧ W1.cell? ⟨W.heap.size + 1, 8, none⟩ = some (.int .i64 ft) ∧ W1.cell? ⟨W.heap.size + 1, 9, none⟩ = some (.bool fl)) := ⟨HF1.out.c0, HF1.out.c2, (HF1.out.ocell 5).trans rfl, (HF1.out.ocell 6).trans rfl, (HF1.out.ocell 7).trans rfl, (HF1.out.ocell 8).trans rfl, (HF1.out.ocell 9).trans rfl⟩; have hfR := K.rFault_any HF1.out.pq.rq.rr HFs.out ⟨fk, fsec, fa, ft, fl⟩; clear ha1 hfD hd1) | (go_at_call 34; refine hfR.mono ?_; rintro r W2 ⟨rfl, av2, hd2⟩; have hq2 := HF1.out.pq.rq.disk (N := 0) (faS_n S ⟨fk, fsec, fa, ft, fl⟩) (K.faS_ok HFs.out HI.out.1 HI.out.2) hd2 (by omega); have HF2 : Hid (Pf n0 W W2 x #[.int .i64 m, .int .i64 k, v] #[.int .i64 12, .int .i64 osec, .int .u8 ofill, .int .i64 omore, .slice olo oln olc, .int .i64 fk, .int .i64 fsec, .int .i64 fa, .int .i64 ft, .bool fl, .slice oko okn okc] { P with ms := P.ms, ml := P.ml, qv := P.qv, fv := fv1 } { A with dv := A.dv, rq := A.rq, av := av2, D := A.D, Q := A.Q } (K.faS S ⟨fk, fsec, fa, ft, fl⟩) C (K.faS S ⟨fk, fsec, fa, ft, fl⟩) C) := HF1.out.actQ hq2; have HZ2 : Hid (W2.cell? ⟨x, 0, none⟩ = some (.pointer (some ⟨P.bd, 0, none⟩)) ∧ W2.cell? ⟨x, 2, none⟩ = some (.pointer (some ⟨A.p, 0, none⟩)) ∧ W2.cell? ⟨W.heap.size + 1, 5, none⟩ = some (.int .i64 fk) ∧ W2.cell? ⟨W.heap.size + 1, 6, none⟩ = some (.int .i64 fsec) ∧ W2.cell? ⟨W.heap.size + 1, 7, none⟩ = some (.int .i64 fa) ∧ W2.cell? ⟨W.heap.size + 1, 8, none⟩ = some (.int .i64 ft) ∧ W2.cell? ⟨W.heap.size + 1, 9, none⟩ = some (.bool fl)) := ⟨HF2.out.c0, HF2.out.c2, (HF2.out.ocell 5).trans rfl, (HF2.out.ocell 6).trans rfl, (HF2.out.ocell 7).trans rfl, (HF2.out.ocell 8).trans rfl, (HF2.out.ocell 9).trans rfl⟩; have HPt : Hid (Qa.pot { A with dv := A.dv, rq := A.rq, av := av2, D := A.D, Q := A.Q } C ≤ A.pot C + 2) := Nat.le_trans hq2.pot (by omega); clear hq2 hfR hd2))
  go_wp2
  go_ret
  exact ⟨by simp, _, _, _, _, HF2.out.pq, HF2.out.bl, faS_n S ⟨fk, fsec, fa, ft, fl⟩, HPt.out⟩
set_option maxHeartbeats 8000000 in
theorem ch_crash {n0 x : Nat} {W : World} {P : Loc} {A : Qa} {S : K.Dk} {C : Ch} (h : Pq n0 W x P A S C S C) (hN : A.pot C + 2 < 1048576) (m k : Int) (v : Value) (osec : Int) (ofill : Nat) (omore : Int) (olo : Option Addr) (oln olc : Nat) (fk fsec fa ft : Int) (fl : Bool) (oko : Option Addr) (okn okc : Nat) {keep : List Bool} (hk : K.BoRow W oko okc keep) (hkn : keep.length = okn) (hko : ∀ ad, oko = some ad → keep ≠ [] → ad.block < n0) {l : List (Int × Int)} (hv : ArgS W v l) (hvl : l ≠ [] → ∀ b' off n c, v = .slice (some ⟨b', off, none⟩) n c → b' < n0) (hl : l.length ≤ 1048576) (hw : ∀ p ∈ l, I64 p.1 ∧ I64 p.2) (hE : newE S.n k l = 0) :
    Calls Tryz.prog 11 #[.pointer (some ⟨x, 0, none⟩), .agg #[.int .i64 m, .int .i64 k, v], .agg #[.int .i64 13, .int .i64 osec, .int .u8 ofill, .int .i64 omore, .slice olo oln olc, .int .i64 fk, .int .i64 fsec, .int .i64 fa, .int .i64 ft, .bool fl, .slice oko okn okc]] W (ChP n0 W x S.n (A.pot C + 2)) := by
  obtain ⟨W0, hW0⟩ : ∃ W0, W0 = (W.alloc (.cells #[.int .i64 m, .int .i64 k, v] TSe)).alloc (.cells #[.int .i64 13, .int .i64 osec, .int .u8 ofill, .int .i64 omore, .slice olo oln olc, .int .i64 fk, .int .i64 fsec, .int .i64 fa, .int .i64 ft, .bool fl, .slice oko okn okc] TOp) := ⟨_, rfl⟩
  have HF0 : Hid (Pf n0 W W0 x #[.int .i64 m, .int .i64 k, v] #[.int .i64 13, .int .i64 osec, .int .u8 ofill, .int .i64 omore, .slice olo oln olc, .int .i64 fk, .int .i64 fsec, .int .i64 fa, .int .i64 ft, .bool fl, .slice oko okn okc] P A S C S C) := by rw [hW0]; exact Pf.new h _ _
  have HW0 : Hid (W0 = (W.alloc (.cells #[.int .i64 m, .int .i64 k, v] TSe)).alloc (.cells #[.int .i64 13, .int .i64 osec, .int .u8 ofill, .int .i64 omore, .slice olo oln olc, .int .i64 fk, .int .i64 fsec, .int .i64 fa, .int .i64 ft, .bool fl, .slice oko okn okc] TOp)) := hW0
  have HQ : Hid (S.q.length + dirtyN C.L ≤ A.pot C) := h.rq.qlen
  have HFs : Hid (K.FsOk S.fs) := h.rq.fs
  obtain ⟨vo, vc, rfl, _⟩ := hv.form
  have HK : Hid (K.BoRow W oko okc keep ∧ keep.length = okn ∧ ∀ ad, oko = some ad → keep ≠ [] → ad.block < n0) := ⟨hk, hkn, hko⟩
  have HV : Hid (ArgS W (.slice vo l.length vc) l ∧ (l ≠ [] → ∀ b' off n c, Value.slice vo l.length vc = .slice (some ⟨b', off, none⟩) n c → b' < n0) ∧ l.length ≤ 1048576 ∧ (∀ p ∈ l, I64 p.1 ∧ I64 p.2) ∧ newE S.n k l = 0) := ⟨hv, hvl, hl, hw, hE⟩
  clear hk hkn hko hv hvl hl hw hE
  clear h hW0
  go_enter Tryz.func11, Tryz.ntmps11
  go_wp2_with fail
  rw [← HW0.out]
  have HFd : Hid (Pf n0 W W0.drew x #[.int .i64 m, .int .i64 k, .slice vo l.length vc] #[.int .i64 13, .int .i64 osec, .int .u8 ofill, .int .i64 omore, .slice olo oln olc, .int .i64 fk, .int .i64 fsec, .int .i64 fa, .int .i64 ft, .bool fl, .slice oko okn okc] P A S C S C) := HF0.out.later (K.below_drew W0)
  have z0 : W0.cell? ⟨x, 0, none⟩ = some (.pointer (some ⟨P.bd, 0, none⟩)) ∧ W0.cell? ⟨W.heap.size + 1, 10, none⟩ = some (.slice oko okn okc) := ⟨HF0.out.c0, (HF0.out.ocell 10).trans rfl⟩
  have zd : W0.drew.cell? ⟨x, 0, none⟩ = some (.pointer (some ⟨P.bd, 0, none⟩)) ∧ W0.drew.cell? ⟨W.heap.size + 1, 10, none⟩ = some (.slice oko okn okc) := ⟨HFd.out.c0, (HFd.out.ocell 10).trans rfl⟩
  have hcD := K.crash_any HFd.out.pq.rc.rk (by have := HQ.out; omega) (borow_low HK.out.1 HFd.out.bl HK.out.2.2) HK.out.2.1 (fun ad e hne hm => by have h1 := HK.out.2.2 ad e hne; have h2 := HFd.out.pq.lp _ (List.mem_append_left _ hm); omega)
  go_region_held3 (fun w' => w'.cell? ⟨x, 0, none⟩ = some (.pointer (some ⟨P.bd, 0, none⟩)) ∧ w'.cell? ⟨W.heap.size + 1, 10, none⟩ = some (.slice oko okn okc)) (first | exact z0 | exact zd | exact HZ1.out | go_keep) (first | (go_at_call 35; refine hcD.mono ?_; rintro r W1 ⟨rfl, ml1, hd1⟩; have ha1 := HFd.out.pq.rc.disk (crashed_n keep S) hd1; have HF1 : Hid (Pf n0 W W1 x #[.int .i64 m, .int .i64 k, .slice vo l.length vc] #[.int .i64 13, .int .i64 osec, .int .u8 ofill, .int .i64 omore, .slice olo oln olc, .int .i64 fk, .int .i64 fsec, .int .i64 fa, .int .i64 ft, .bool fl, .slice oko okn okc] { P with ms := P.ms, ml := ml1, qv := .slice none 0 0, fv := .slice none 0 0 } A (K.crashed keep S) C S C) := HFd.out.actC ha1; have HZ1 : Hid (W1.cell? ⟨x, 0, none⟩ = some (.pointer (some ⟨P.bd, 0, none⟩)) ∧ W1.cell? ⟨W.heap.size + 1, 10, none⟩ = some (.slice oko okn okc)) := ⟨HF1.out.c0, (HF1.out.ocell 10).trans rfl⟩; clear ha1 hcD hd1))
  clear z0 zd
  have HFe : Hid (Pf n0 W W1.drew x #[.int .i64 m, .int .i64 k, .slice vo l.length vc] #[.int .i64 13, .int .i64 osec, .int .u8 ofill, .int .i64 omore, .slice olo oln olc, .int .i64 fk, .int .i64 fsec, .int .i64 fa, .int .i64 ft, .bool fl, .slice oko okn okc] { P with ms := P.ms, ml := ml1, qv := .slice none 0 0, fv := .slice none 0 0 } A (K.crashed keep S) C S C) := HF1.out.later (K.below_drew W1)
  have z0 : W1.cell? ⟨x, 2, none⟩ = some (.pointer (some ⟨A.p, 0, none⟩)) ∧ W1.cell? ⟨W.heap.size + 1, 10, none⟩ = some (.slice oko okn okc) := ⟨HF1.out.c2, (HF1.out.ocell 10).trans rfl⟩
  have zd : W1.drew.cell? ⟨x, 2, none⟩ = some (.pointer (some ⟨A.p, 0, none⟩)) ∧ W1.drew.cell? ⟨W.heap.size + 1, 10, none⟩ = some (.slice oko okn okc) := ⟨HFe.out.c2, (HFe.out.ocell 10).trans rfl⟩
  have hcR := K.rCrash_any HFe.out.pq.rq.rr (by have : A.D.length + A.Q.length ≤ A.pot C := (by simp only [Qa.pot]; omega); omega) (borow_low HK.out.1 HFe.out.bl HK.out.2.2) HK.out.2.1 (fun ad e hne hm => by have h1 := HK.out.2.2 ad e hne; have h2 := HFe.out.pq.lq _ (List.mem_append_left _ hm); omega)
  clear HZ1
  go_wp2_with fail
  go_region_held3 (fun w' => w'.cell? ⟨x, 2, none⟩ = some (.pointer (some ⟨A.p, 0, none⟩)) ∧ w'.cell? ⟨W.heap.size + 1, 10, none⟩ = some (.slice oko okn okc)) (first | exact z0 | exact zd | exact HZ2.out | go_keep) (first | (go_at_call 36; refine hcR.mono ?_; rintro r W2 ⟨rfl, dv2, D2, hd2, hle2⟩; have hq2 := HFe.out.pq.rq.disk (N := 0) (crashed_n keep S) (crashed_ok keep S) hd2 (by simpa using hle2); have HF2 : Hid (Pf n0 W W2 x #[.int .i64 m, .int .i64 k, .slice vo l.length vc] #[.int .i64 13, .int .i64 osec, .int .u8 ofill, .int .i64 omore, .slice olo oln olc, .int .i64 fk, .int .i64 fsec, .int .i64 fa, .int .i64 ft, .bool fl, .slice oko okn okc] { P with ms := P.ms, ml := ml1, qv := .slice none 0 0, fv := .slice none 0 0 } { A with dv := dv2, rq := .slice none 0 0, av := .slice none 0 0, D := D2, Q := [] } (K.crashed keep S) C (K.crashed keep S) C) := HFe.out.actQ hq2; have HZ2 : Hid (W2.cell? ⟨x, 2, none⟩ = some (.pointer (some ⟨A.p, 0, none⟩)) ∧ W2.cell? ⟨W.heap.size + 1, 10, none⟩ = some (.slice oko okn okc)) := ⟨HF2.out.c2, (HF2.out.ocell 10).trans rfl⟩; have HPt : Hid (Qa.pot { A with dv := dv2, rq := .slice none 0 0, av := .slice none 0 0, D := D2, Q := [] } C ≤ A.pot C + 2) := Nat.le_trans hq2.pot (by omega); clear hq2 hcR hd2 hle2))
  clear z0 zd HZ2
  have s0 : W2.cell? ⟨W.heap.size, 0, none⟩ = some (.int .i64 m) := (HF2.out.scell 0).trans rfl
  have s1 : W2.cell? ⟨W.heap.size, 1, none⟩ = some (.int .i64 k) := (HF2.out.scell 1).trans rfl
  have s2 : W2.cell? ⟨W.heap.size, 2, none⟩ = some (.slice vo l.length vc) := (HF2.out.scell 2).trans rfl
  have hop := open_pair HF2.out.pq (HV.out.1.low HF2.out.bl HV.out.2.1) HV.out.2.1 HV.out.2.2.1 HV.out.2.2.2.1 m k (by rw [crashed_n]; exact HV.out.2.2.2.2)
  go_wp2_with fail
  refine hop.mono ?_
  rintro r W3 ⟨rfl, P3, A3, hpq, hb, hpot⟩
  have HR : Hid (Pq n0 W3 x P3 A3 (K.crashed keep S) (newCh k.toNat l) (K.crashed keep S) (newCh k.toNat l) ∧ Below n0 W W3 ∧ A3.pot (newCh k.toNat l) ≤ A.pot C + 2) := ⟨hpq, HF2.out.bl.trans hb, Nat.le_trans hpot HPt.out⟩
  clear hpq hb hpot hop
  go_wp2
  go_ret
  exact ⟨rfl, P3, A3, _, _, HR.out.1, HR.out.2.1, crashed_n keep S, HR.out.2.2⟩
end Go.Proofs.YtlacligofhinmaaGreat.C

namespace Go.Proofs.YtlacligofhinmaaGreat.C
open Go.ChangeShapes Go.WideShapes Go.ChangeAt Go.RowKit Go.Deep Go.Proofs.YtlacligofhinmaaGreat
set_option linter.unusedVariables false
set_option maxRecDepth 100000

/-- a call that was handed in -/
structure Opq where
  kind : Int
  sector : Int
  fill : Nat
  more : Int
  lo : Option Addr
  lc : Nat
  list : List Int
  f : K.Flt
  ko : Option Addr
  kc : Nat
  keep : List Bool
def Opq.cells (o : Opq) : List Value := [.int .i64 o.kind, .int .i64 o.sector, .int .u8 o.fill, .int .i64 o.more, .slice o.lo o.list.length o.lc, .int .i64 o.f.kind, .int .i64 o.f.sector, .int .i64 o.f.after, .int .i64 o.f.times, .bool o.f.land, .slice o.ko o.keep.length o.kc]
structure OpqOk (W : World) (o : Opq) : Prop where
  fill : o.fill < 256
  sw : (Lit.int .i64 o.sector).wf = true
  fa : K.I64 o.f.after
  ft : K.I64 o.f.times
  ll : o.list.length ≤ 1048576
  row : ArgI W (.slice o.lo o.list.length o.lc) o.list
  kr : K.BoRow W o.ko o.kc o.keep
theorem open_ints2 {H : Type} {enc : TypeId × Value → H} {W : World} {base fuel : Nat} {cs : List Value} {d : DataW H} {p : List MemPlace} (hf : DataW.trod enc Tryz.prog W base (fun _ => true) true fuel 39 cs = some (d, p)) (hb : Rows.uptoBulk d ≤ 1048576) :
    ∃ (ao : Option Addr) (cap : Nat) (l : List Int), cs = [.slice ao l.length cap] ∧ ArgI W (.slice ao l.length cap) l ∧ l.length ≤ 1048576 := by
  rcases open_slice Tryz.underlying39 hf with ⟨hcs, _⟩ | ⟨x, len, cap, m, n, D, Pl, hcs, _, hl, hm, hmm, hx, hel⟩
  · exact ⟨none, 0, [], hcs, .inl ⟨rfl, rfl⟩, by simp⟩
  · have hmc : m = cap := by simpa using hmm
    have hd : d = .slice ((List.range len).map D) ((List.range (m - len)).map fun j => D (len + j)) := (Prod.mk.inj hx).1
    have hlen : len ≤ 1048576 := by
      have b1 := bulk_slice ((List.range len).map D) ((List.range (m - len)).map fun j => D (len + j))
      have b2 := length_le_bulk ((List.range len).map D)
      rw [← hd] at b1
      simp at b2
      omega
    have hel' : ∀ i, ∃ q : Int, i < len → W.cell? (x.add i) = some (.int .i64 q) := by
      intro i
      by_cases hi : i < len
      · obtain ⟨cs', hc1, hc2⟩ := hel i (by omega)
        rw [cellsInt] at hc1
        obtain ⟨q, rfl, _⟩ := DataW.trod_int Tryz.underlying3 hc2
        refine ⟨q, fun _ => ?_⟩
        have h1 := (World.cells?_some hc1).2.2 0 (by decide)
        rw [Nat.mul_one] at h1
        have e : (x.add i).add 0 = x.add i := by simp [Addr.add]
        rw [e] at h1
        exact h1
      · exact ⟨0, fun h => absurd h hi⟩
    obtain ⟨T, hT⟩ := Classical.axiomOfChoice hel'
    refine ⟨some x, cap, (List.range len).map T, by rw [hcs]; simp, .inr ⟨x, cap, by simp, fun k y hk => ?_⟩, by simpa using hlen⟩
    have hk2 : k < len := by
      have := (List.getElem?_eq_some_iff.1 hk).1
      simpa using this
    obtain ⟨pb, po, rfl⟩ : ∃ pb po, x = ⟨pb, po, none⟩ := by
      have h1 := World.cell?_spot (hT 0 (by omega))
      obtain ⟨b, off, spot⟩ := x
      have : spot = none := by simpa [Addr.add] using h1
      exact ⟨b, off, by rw [this]⟩
    have hq : T k = y := by simpa [hk2] using hk
    have h1 := hT k hk2
    rw [add_plain, hq] at h1
    exact ⟨pb, po, rfl, cell_lt h1, h1⟩
theorem open_keep {H : Type} {enc : TypeId × Value → H} {W : World} {base fuel : Nat} {cs : List Value} {d : DataW H} {p : List MemPlace} (hf : DataW.trod enc Tryz.prog W base (fun _ => true) true fuel 42 cs = some (d, p)) (hb : Rows.uptoBulk d ≤ 1048576) :
    ∃ (ao : Option Addr) (cap : Nat) (l : List Bool), cs = [.slice ao l.length cap] ∧ K.BoRow W ao cap l := by
  rcases open_slice Tryz.underlying42 hf with ⟨hcs, _⟩ | ⟨x, len, cap, m, n, D, Pl, hcs, _, hl, hm, hmm, hx, hel⟩
  · exact ⟨none, 0, [], hcs, ⟨by simp, fun _ => ⟨rfl, rfl⟩, fun h => absurd rfl h⟩⟩
  · have hmc : m = cap := by simpa using hmm
    have hd : d = .slice ((List.range len).map D) ((List.range (m - len)).map fun j => D (len + j)) := (Prod.mk.inj hx).1
    have hlen : len ≤ 1048576 := by
      have b1 := bulk_slice ((List.range len).map D) ((List.range (m - len)).map fun j => D (len + j))
      have b2 := length_le_bulk ((List.range len).map D)
      rw [← hd] at b1
      simp at b2
      omega
    have hel' : ∀ i, ∃ q : Bool, i < len → W.cell? (x.add i) = some (.bool q) := by
      intro i
      by_cases hi : i < len
      · obtain ⟨cs', hc1, hc2⟩ := hel i (by omega)
        rw [cellsBool] at hc1
        obtain ⟨q, rfl, _⟩ := DataW.trod_bool Tryz.underlying4 hc2
        refine ⟨q, fun _ => ?_⟩
        have h1 := (World.cells?_some hc1).2.2 0 (by decide)
        rw [Nat.mul_one] at h1
        have e : (x.add i).add 0 = x.add i := by simp [Addr.add]
        rw [e] at h1
        exact h1
      · exact ⟨false, fun h => absurd h hi⟩
    obtain ⟨T, hT⟩ := Classical.axiomOfChoice hel'
    refine ⟨some x, cap, (List.range len).map T, by rw [hcs]; simp, ⟨by simpa using hlen, (fun e => by cases e), fun hne => ?_⟩⟩
    have h0 : 0 < len := by
      rcases Nat.eq_zero_or_pos len with h | h
      · subst h; simp at hne
      · exact h
    obtain ⟨pb, po, rfl⟩ : ∃ pb po, x = ⟨pb, po, none⟩ := by
      have h1 := World.cell?_spot (hT 0 h0)
      obtain ⟨b, off, spot⟩ := x
      have : spot = none := by simpa [Addr.add] using h1
      exact ⟨b, off, by rw [this]⟩
    refine ⟨pb, po, rfl, fun k y hk => ?_⟩
    have hk2 : k < len := by
      have := (List.getElem?_eq_some_iff.1 hk).1
      simpa using this
    have hq : T k = y := by simpa [hk2] using hk
    have h1 := hT k hk2
    rw [add_plain, hq] at h1
    exact h1
theorem open_opq {H : Type} {enc : TypeId × Value → H} {W : World} {base fuel : Nat} {cs : List Value} {d : DataW H} {p : List MemPlace} (hf : DataW.trod enc Tryz.prog W base (fun _ => true) true fuel 44 cs = some (d, p)) (hb : Rows.uptoBulk d ≤ 1048576) :
    ∃ o : Opq, cs = o.cells ∧ OpqOk W o ∧ 8 ≤ Rows.uptoBulk d := by
  obtain ⟨xs, m, _, hx, hl, hxl, hall⟩ := DataW.trod_struct Tryz.underlying44 hf
  obtain ⟨a, b, c, d', ls, f0, f1, f2, f3, f4, g, rfl⟩ := elevenV (hl.trans cellsOp)
  have hx7 : xs.length = 7 := hxl
  have h0 : DataW.trod enc Tryz.prog W base (fun _ => true) true m 3 (([a, b, c, d', ls, f0, f1, f2, f3, f4, g].drop 0).take (Tryz.prog.cellsOf 3)) = xs[0]? := hall 0 _ rfl
  have h1 : DataW.trod enc Tryz.prog W base (fun _ => true) true m 3 (([a, b, c, d', ls, f0, f1, f2, f3, f4, g].drop 1).take (Tryz.prog.cellsOf 3)) = xs[1]? := hall 1 _ rfl
  have h2 : DataW.trod enc Tryz.prog W base (fun _ => true) true m 5 (([a, b, c, d', ls, f0, f1, f2, f3, f4, g].drop 2).take (Tryz.prog.cellsOf 5)) = xs[2]? := hall 2 _ rfl
  have h3 : DataW.trod enc Tryz.prog W base (fun _ => true) true m 3 (([a, b, c, d', ls, f0, f1, f2, f3, f4, g].drop 3).take (Tryz.prog.cellsOf 3)) = xs[3]? := hall 3 _ rfl
  have h4 : DataW.trod enc Tryz.prog W base (fun _ => true) true m 39 (([a, b, c, d', ls, f0, f1, f2, f3, f4, g].drop 4).take (Tryz.prog.cellsOf 39)) = xs[4]? := hall 4 _ rfl
  have h5 : DataW.trod enc Tryz.prog W base (fun _ => true) true m 41 (([a, b, c, d', ls, f0, f1, f2, f3, f4, g].drop 5).take (Tryz.prog.cellsOf 41)) = xs[5]? := hall 5 _ rfl
  have h6 : DataW.trod enc Tryz.prog W base (fun _ => true) true m 42 (([a, b, c, d', ls, f0, f1, f2, f3, f4, g].drop 10).take (Tryz.prog.cellsOf 42)) = xs[6]? := hall 6 _ rfl
  rw [List.getElem?_eq_getElem (by omega)] at h0 h1 h2 h3 h4 h5 h6
  rw [cellsInt] at h0 h1 h3
  rw [cellsU8] at h2
  rw [cellsInts] at h4
  rw [cellsFa5] at h5
  rw [cellsKeep] at h6
  obtain ⟨z0, e0, _, _⟩ := DataW.trod_int Tryz.underlying3 h0
  obtain ⟨z1, e1, _, w1⟩ := DataW.trod_int Tryz.underlying3 h1
  obtain ⟨z2, e2, _, w2⟩ := DataW.trod_int Tryz.underlying5 h2
  obtain ⟨z3, e3, _, _⟩ := DataW.trod_int Tryz.underlying3 h3
  obtain ⟨f, e5, fa, ft⟩ := open_fault h5
  have hb8 : 8 ≤ Rows.uptoBulk d := by
    have hd : d = .agg (xs.map Prod.fst) := (Prod.mk.inj hx).1
    have h7 := length_le_bulk (xs.map Prod.fst)
    rw [List.length_map, hx7] at h7
    rw [hd]
    simp only [Rows.uptoBulk]
    omega
  have hb4 : Rows.uptoBulk xs[4].1 ≤ 1048576 := by
    have hd : d = .agg (xs.map Prod.fst) := (Prod.mk.inj hx).1
    have h6 : xs[4].1 ∈ xs.map Prod.fst := List.mem_map_of_mem (List.getElem_mem _)
    have h7 := bulk_le_all h6
    rw [hd] at hb
    simp only [Rows.uptoBulk] at hb
    omega
  have hb6 : Rows.uptoBulk xs[6].1 ≤ 1048576 := by
    have hd : d = .agg (xs.map Prod.fst) := (Prod.mk.inj hx).1
    have h6 : xs[6].1 ∈ xs.map Prod.fst := List.mem_map_of_mem (List.getElem_mem _)
    have h7 := bulk_le_all h6
    rw [hd] at hb
    simp only [Rows.uptoBulk] at hb
    omega
  obtain ⟨lo, lc, l, e4, hr, hll⟩ := open_ints2 (d := xs[4].1) (p := xs[4].2) h4 hb4
  obtain ⟨ko, kc, keep, e6, hkr⟩ := open_keep (d := xs[6].1) (p := xs[6].2) h6 hb6
  simp [K.fcell] at e0 e1 e2 e3 e4 e5 e6
  obtain ⟨q0, q1, q2, q3, q4⟩ := e5
  subst e0; subst e1; subst e2; subst e3; subst e4; subst e6; subst q0; subst q1; subst q2; subst q3; subst q4
  have hbb := bounds_u8 w2
  obtain ⟨fill, rfl⟩ := Int.eq_ofNat_of_zero_le hbb.1
  exact ⟨⟨z0, z1, fill, z3, lo, lc, l, f, ko, kc, keep⟩, rfl, ⟨by show fill < 256; omega, w1, fa, ft, hll, hr, hkr⟩, hb8⟩
/-- the script's row -/
structure OqRow (W : World) (ao : Option Addr) (l : List Opq) : Prop where
  at_ : ∀ (k : Nat) o, l[k]? = some o → ∃ b off, ao = some ⟨b, off, none⟩ ∧ ∀ j, j < 11 → W.cell? ⟨b, off + k * 11 + j, none⟩ = o.cells[j]?
theorem open_opqs {H : Type} {enc : TypeId × Value → H} {W : World} {base fuel : Nat} {a0 : Option Addr} {len0 cap0 : Nat} {d : DataW H} {p : List MemPlace} (hf : DataW.trod enc Tryz.prog W base (fun _ => true) true fuel 25 [.slice a0 len0 cap0] = some (d, p)) (hb : Rows.uptoBulk d ≤ 1048576) :
    ∃ l : List Opq, len0 = l.length ∧ OqRow W a0 l ∧ (∀ o ∈ l, OpqOk W o) ∧ 8 * len0 ≤ 1048576 := by
  rcases open_slice Tryz.underlying25 hf with ⟨hcs, _⟩ | ⟨x, len, cap, m, n, D, Pl, hcs, _, hl, hm, hmm, hx, hel⟩
  · simp at hcs
    obtain ⟨rfl, rfl, rfl⟩ := hcs
    exact ⟨[], rfl, ⟨fun k q hk => by simp at hk⟩, by simp, by decide⟩
  · simp at hcs
    obtain ⟨rfl, rfl, rfl⟩ := hcs
    have hmc : m = cap0 := by simpa using hmm
    have hd : d = .slice ((List.range len0).map D) ((List.range (m - len0)).map fun j => D (len0 + j)) := (Prod.mk.inj hx).1
    have b1 := bulk_slice ((List.range len0).map D) ((List.range (m - len0)).map fun j => D (len0 + j))
    rw [← hd] at b1
    have hlen : len0 ≤ 1048575 := by
      have b2 := length_le_bulk ((List.range len0).map D)
      simp at b2
      omega
    have hel' : ∀ i, ∃ q : Opq, i < len0 → (∀ j, j < 11 → W.cell? ((x.add (i * 11)).add j) = q.cells[j]?) ∧ OpqOk W q ∧ 8 ≤ Rows.uptoBulk (D i) := by
      intro i
      by_cases hi : i < len0
      · obtain ⟨cs', hc1, hc2⟩ := hel i (by omega)
        rw [cellsOp] at hc1
        have hbi : Rows.uptoBulk (D i) ≤ 1048576 := by
          have h6 : D i ∈ (List.range len0).map D := List.mem_map_of_mem (List.mem_range.2 hi)
          have h7 := bulk_le_all h6
          omega
        obtain ⟨q, rfl, hq⟩ := open_opq hc2 hbi
        exact ⟨q, fun _ => ⟨(World.cells?_some hc1).2.2, hq⟩⟩
      · exact ⟨⟨0, 0, 0, 0, none, 0, [], ⟨0, 0, 0, 0, false⟩, none, 0, []⟩, fun h => absurd h hi⟩
    obtain ⟨T, hT⟩ := Classical.axiomOfChoice hel'
    have hlen8 : 8 * len0 ≤ 1048576 := by
      have h1 := bulk_times ((List.range len0).map D) (fun d hd => by
        obtain ⟨i, hi, rfl⟩ := List.mem_map.1 hd
        exact (hT i (List.mem_range.1 hi)).2.2)
      simp only [List.length_map, List.length_range] at h1
      omega
    refine ⟨(List.range len0).map T, by simp, ⟨fun k q hk => ?_⟩, fun y hy => ?_, hlen8⟩
    · have hk2 : k < len0 := by
        have := (List.getElem?_eq_some_iff.1 hk).1
        simpa using this
      have hq : T k = q := by simpa [hk2] using hk
      obtain ⟨pb, po, rfl⟩ : ∃ pb po, x = ⟨pb, po, none⟩ := by
        have h0 := (hT 0 (by omega)).1 0 (by decide)
        have h1 := World.cell?_spot (show W.cell? ((x.add (0 * 11)).add 0) = some (.int .i64 (T 0).kind) from h0)
        obtain ⟨b, off, spot⟩ := x
        have : spot = none := by simpa [Addr.add] using h1
        exact ⟨b, off, by rw [this]⟩
      refine ⟨pb, po, rfl, fun j hj => ?_⟩
      have g0 := (hT k hk2).1 j hj
      rw [add_plain, add_plain, hq] at g0
      exact g0
    · obtain ⟨i, hi, rfl⟩ := List.mem_map.1 hy
      exact (hT i (List.mem_range.1 hi)).2.1
end Go.Proofs.YtlacligofhinmaaGreat.C
