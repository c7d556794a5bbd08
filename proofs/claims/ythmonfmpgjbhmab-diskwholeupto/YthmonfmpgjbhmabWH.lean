import Derived.Test.YthmonfmpgjbhmabWO
namespace Go.Proofs.Ythmonfmpgjbhmab.K
open Go.RowKit Go.Maps Go.Proofs.Ythmonfmpgjbhmab Go.MuLone
attribute [local go_sem] Oper.semAt_some
set_option linter.unusedVariables false
set_option linter.unusedSimpArgs false
set_option maxRecDepth 100000

abbrev TOp : TypeId := 32
/-- the disk of the law, behind some of its calls -/
structure Wh (w W : World) (b ms ml : Nat) (qv fv : Value) (S : Dk) (i : Nat) : Prop where
  hs : Hs w W b ms ml qv fv S
  fs : FsOk S.fs
  ql : S.q.length ≤ i
theorem Wh.later {w W W' : World} {b ms ml i : Nat} {qv fv : Value} {S : Dk} (h : Wh w W b ms ml qv fv S i) (hb : Below W.heap.size W W') : Wh w W' b ms ml qv fv S i := ⟨h.hs.later hb, h.fs, h.ql⟩
theorem Wh.more {w W : World} {b ms ml i j : Nat} {qv fv : Value} {S : Dk} (h : Wh w W b ms ml qv fv S i) (hj : i ≤ j) : Wh w W b ms ml qv fv S j := ⟨h.hs, h.fs, Nat.le_trans h.ql hj⟩
/-- a block that is none of the disk's -/
def Out (W : World) (F : List Nat) (g : Nat) : Prop := g < W.heap.size ∧ g ∉ F
theorem Out.step {W W' : World} {lk : Int} {b ms ml ms' ml' : Nat} {qv fv qv' fv' : Value} {S : Dk} {g : Nat} (h : Out W (fp b ms ml qv fv) g) (ha : DAct W W' lk b ms ml ms' ml' qv fv qv' fv' S) : Out W' (fp b ms' ml' qv' fv') g ∧ W'.heap[g]? = W.heap[g]? :=
  ⟨⟨Nat.lt_of_lt_of_le h.1 ha.kp.size, fun hm => (ha.sub g hm).elim h.2 (fun h1 => by have := h.1; omega)⟩, ha.kp.block g h.1 h.2⟩
/-- an image that is none of the disk's -/
structure Im (W : World) (F : List Nat) (g cap n : Nat) (f : Nat → Bl) : Prop where
  im : Img W g cap n f
  out : Out W F g
theorem Im.step {W W' : World} {lk : Int} {b ms ml ms' ml' g cap n : Nat} {qv fv qv' fv' : Value} {S : Dk} {f : Nat → Bl} (h : Im W (fp b ms ml qv fv) g cap n f) (ha : DAct W W' lk b ms ml ms' ml' qv fv qv' fv' S) : Im W' (fp b ms' ml' qv' fv') g cap n f := by
  obtain ⟨h1, h2⟩ := h.out.step ha
  exact ⟨⟨ownsRow_block h.im.row (fun x e => by simp [Value.ownBlock] at e; subst e; exact h2), h.im.ok, h.im.n0, h.im.n1⟩, h1⟩
theorem Im.later {W W' : World} {F : List Nat} {g cap n : Nat} {f : Nat → Bl} (h : Im W F g cap n f) (hb : Below W.heap.size W W') : Im W' F g cap n f := ⟨h.im.later hb, Nat.lt_of_lt_of_le h.out.1 hb.size, h.out.2⟩
/-- writes that were told, none of the disk's -/
structure Td (W : World) (F : List Nat) (v : Value) (ps : List Pv) : Prop where
  row : W.ownsRow 0 TPt 2 v ps.length (qcells ps)
  dat : ∀ x ∈ ps, W.ownsRow 0 5 1 x.2.1 512 (x.2.2.map bv)
  o1 : ∀ g, v.ownBlock = some g → Out W F g
  o2 : ∀ x ∈ ps, ∀ g, x.2.1.ownBlock = some g → Out W F g
theorem Td.step {W W' : World} {lk : Int} {b ms ml ms' ml' : Nat} {qv fv qv' fv' v : Value} {S : Dk} {ps : List Pv} (h : Td W (fp b ms ml qv fv) v ps) (ha : DAct W W' lk b ms ml ms' ml' qv fv qv' fv' S) : Td W' (fp b ms' ml' qv' fv') v ps :=
  ⟨ownsRow_block h.row (fun g e => ((h.o1 g e).step ha).2), fun x hx => ownsRow_block (h.dat x hx) (fun g e => ((h.o2 x hx g e).step ha).2), fun g e => ((h.o1 g e).step ha).1, fun x hx g e => ((h.o2 x hx g e).step ha).1⟩
theorem Td.later {W W' : World} {F : List Nat} {v : Value} {ps : List Pv} (h : Td W F v ps) (hb : Below W.heap.size W W') : Td W' F v ps :=
  ⟨ownsRow_block h.row (fun g e => hb.block g (h.o1 g e).1), fun x hx => ownsRow_block (h.dat x hx) (fun g e => hb.block g (h.o2 x hx g e).1), fun g e => ⟨Nat.lt_of_lt_of_le (h.o1 g e).1 hb.size, (h.o1 g e).2⟩, fun x hx g e => ⟨Nat.lt_of_lt_of_le (h.o2 x hx g e).1 hb.size, (h.o2 x hx g e).2⟩⟩
theorem im_new {W W' : World} {b ms ml : Nat} {qv fv v : Value} {S : Dk} (hk : RK W 0 b ms ml qv fv S) (hk' : RK W' 0 b ms ml qv fv S) (ho : W'.ownsRow W.heap.size 5 1 v (S.n * 512) ((imgL S.n S.safe).map bv)) : ∃ g cap, v = .slice (some ⟨g, 0, none⟩) (S.n * 512) cap ∧ Im W' (fp b ms ml qv fv) g cap S.n S.safe := by
  obtain ⟨g, c, cur, rfl, hg, hh, _⟩ := own_form ho (by have := hk.n0; omega)
  obtain ⟨D, _, hso⟩ := hk.sm
  exact ⟨g, c, rfl, ⟨owns_mono ho (Nat.zero_le _), hso.ok, hk.n0, hk.n1⟩, (Array.getElem?_eq_some_iff.1 hh).1, fun hm => by have := hk.lt g hm; omega⟩
theorem td_new {W W' : World} {b ms ml : Nat} {qv fv v : Value} {S : Dk} {ps : List Pv} (hk : RK W 0 b ms ml qv fv S) (ht : Told W' W.heap.size v ps) : Td W' (fp b ms ml qv fv) v ps :=
  ⟨owns_mono ht.row (Nat.zero_le _), fun x hx => owns_mono (ht.dat x hx) (Nat.zero_le _), fun g e => ⟨(row_lt ht.row g e).1, fun hm => by have := hk.lt g hm; have := (ht.row.lt g e).1; omega⟩, fun x hx g e => ⟨(row_lt (ht.dat x hx) g e).1, fun hm => by have := hk.lt g hm; have := ((ht.dat x hx).lt g e).1; omega⟩⟩
theorem lay_last (q : List Pu) (f : Nat → Bl) (s : Nat) : ∀ n, layTo (fun _ => true) q f n s = (lastQ s (q.take n)).getD (f s)
  | 0 => by simp [layTo, lastQ]
  | n + 1 => by
    have ih := lay_last q f s n
    unfold layTo
    rw [List.take_add_one]
    cases hq : q[n]? with
    | none => simp; exact ih
    | some x =>
      simp only [if_true, Option.toList_some]
      rw [lastQ_append]
      simp only [lastQ, upd]
      by_cases e : s = x.1
      · rw [if_pos e, if_pos e.symm]; rfl
      · rw [if_neg e, if_neg (fun h => e h.symm)]; exact ih
theorem lay_among (k : Nat → Bool) (q : List Pu) (f : Nat → Bl) (s : Nat) : ∀ n, layTo k q f n s = f s ∨ ∃ x ∈ q, x.1 = s ∧ layTo k q f n s = x.2
  | 0 => .inl rfl
  | n + 1 => by
    have ih := lay_among k q f s n
    unfold layTo
    cases hq : q[n]? with
    | none => exact ih
    | some x =>
      by_cases hk : k n = true
      · simp only [hk, if_true, upd]
        by_cases e : s = x.1
        · rw [if_pos e]; exact .inr ⟨x, List.mem_of_getElem? hq, e.symm, rfl⟩
        · rw [if_neg e]; exact ih
      · simp only [hk]; exact ih
set_option maxHeartbeats 8000000 in
theorem lawWhole_any (w : World) (ns : Nat) (h0 : 1 ≤ ns) (h1 : ns ≤ 65536) (ao : Option Addr) (n cap : Nat) (l : List Opn) (hn : n = l.length) (hn1 : n ≤ 1048575) (hr : ORow w ao l) (hok : ∀ o ∈ l, OpOk w o) :
    Calls Try.prog 3 #[.int .i64 ns, .slice ao n cap] w fun r w' => r = .returned (.bool true) ∧ Below w.heap.size w w' := by
  have hnew := new_any w ns h0 h1
  have HN : Hid (l.length = n) := hn.symm
  have HR : Hid (ORow w ao l) := hr
  have HO : Hid (∀ o ∈ l, OpOk w o) := hok
  have d1 : ¬ ((ns : Int) < 1) := by omega
  have d2 : ¬ ((65536 : Int) < (ns : Int)) := by omega
  clear hn hr hok
  go_enter Try.func3, Try.ntmps3
  go_wp2_with fail
  refine hnew.mono ?_
  clear hnew
  rintro e w1 ⟨b, rfl, ms, ml, hrk, hb1, hf1⟩
  have HS1 : Hid (Wh w w1 b ms ml (.slice none 0 0) (.slice none 0 0) (newDk ns) 0) := ⟨⟨hrk, hb1, hf1⟩, ⟨by simp [newDk], by simp [newDk]⟩, by simp [newDk]⟩
  clear hrk hb1 hf1
  go_wp2
  go_loopw [7] (fun c wr => ∃ i : Nat, i ≤ n ∧ c = .int .i64 i ∧ Hid (∃ ms ml qv fv S, Wh w wr b ms ml qv fv S i)) (fun c _ => n - (intOf c).toNat)
  case atStart => exact ⟨0, Nat.zero_le _, rfl, ⟨_, _, _, _, _, HS1.out⟩⟩
  case round =>
    obtain ⟨i, hi, rfl, HW⟩ := hrel
    by_cases hlt : i < n
    · obtain ⟨o, ho⟩ : ∃ o, l[i]? = some o := ⟨_, List.getElem?_eq_getElem (by have := HN.out; omega)⟩
      obtain ⟨ms, ml, qv, fv, S, hwh⟩ := HW.out
      obtain ⟨bs, off, hao, hcs⟩ := HR.out.at_ i o ho
      subst hao
      have hokk := HO.out o (List.mem_of_getElem? ho)
      have hc : ∀ j, j < 10 → wr.cell? ⟨bs, off + i * 10 + j, none⟩ = o.cells[j]? := fun j hj => by
        have h1 := hcs j hj
        obtain ⟨v, hv⟩ : ∃ v, o.cells[j]? = some v := ⟨_, List.getElem?_eq_getElem hj⟩
        rw [hv] at h1 ⊢
        exact cell_later hwh.hs.bl h1
      obtain ⟨W1, hW1⟩ : ∃ W1, W1 = wr.alloc (.cells o.cells.toArray TOp) := ⟨_, rfl⟩
      have hB1 : Below wr.heap.size wr W1 := by rw [hW1]; exact (Below.refl _ wr).alloc (Nat.le_refl _) _
      have hx1 : W1.heap[wr.heap.size]? = some (.cells o.cells.toArray TOp) := by rw [hW1]; exact heap_alloc_new wr _
      have HW1 : Hid (Wh w W1 b ms ml qv fv S i) := hwh.later hB1
      have HX1 : Hid (W1.heap[wr.heap.size]? = some (.cells o.cells.toArray TOp)) := hx1
      have hWbl := hwh.hs.bl.trans (hB1.mono hwh.hs.bl.size)
      have HOw : Hid (OpOk w o) := hokk
      have HOk : Hid (∀ W, Below W1.heap.size W1 W → OpOk W o) := fun W hW => ⟨hokk.fill, hokk.sw, hokk.fa, hokk.ft, hokk.row.kept (Kp.of_below (hWbl.trans (hW.mono hWbl.size)) []) (by simp)⟩
      obtain ⟨okind, osec, ofill, omore, ⟨fk, fsec, fa, ft, fl⟩, oao, ocap, okeep⟩ := o
      have q0 : wr.cell? ⟨bs, off + i * 10, none⟩ = some (.int .i64 okind) := hc 0 (by decide)
      have q1 : wr.cell? ⟨bs, off + i * 10 + 1, none⟩ = some (.int .i64 osec) := hc 1 (by decide)
      have q2 : wr.cell? ⟨bs, off + i * 10 + 2, none⟩ = some (.int .u8 ofill) := hc 2 (by decide)
      have q3 : wr.cell? ⟨bs, off + i * 10 + 3, none⟩ = some (.int .i64 omore) := hc 3 (by decide)
      have q4 : wr.cell? ⟨bs, off + i * 10 + 4, none⟩ = some (.int .i64 fk) := hc 4 (by decide)
      have q5 : wr.cell? ⟨bs, off + i * 10 + 5, none⟩ = some (.int .i64 fsec) := hc 5 (by decide)
      have q6 : wr.cell? ⟨bs, off + i * 10 + 6, none⟩ = some (.int .i64 fa) := hc 6 (by decide)
      have q7 : wr.cell? ⟨bs, off + i * 10 + 7, none⟩ = some (.int .i64 ft) := hc 7 (by decide)
      have q8 : wr.cell? ⟨bs, off + i * 10 + 8, none⟩ = some (.bool fl) := hc 8 (by decide)
      have q9 : wr.cell? ⟨bs, off + i * 10 + 9, none⟩ = some (.slice oao okeep.length ocap) := hc 9 (by decide)
      have y0 : W1.cell? ⟨wr.heap.size, 0, none⟩ = some (.int .i64 okind) := (cell_of hx1).trans rfl
      have hnl : (i : Int) < (n : Int) := by omega
      have HWe : Hid (W1 = wr.alloc (.cells #[.int .i64 okind, .int .i64 osec, .int .u8 ofill, .int .i64 omore, .int .i64 fk, .int .i64 fsec, .int .i64 fa, .int .i64 ft, .bool fl, .slice oao okeep.length ocap] TOp)) := hW1
      have HLt : Hid (∀ x ∈ fp b ms ml qv fv, x < wr.heap.size) := hwh.hs.rk.lt
      clear hwh hcs hokk hc hB1 hx1 hWbl hW1 ho HW
      have hbx : ∀ W, Kp W1 W (fp b ms ml qv fv) → W.heap[wr.heap.size]? = some (.cells #[.int .i64 okind, .int .i64 osec, .int .u8 ofill, .int .i64 omore, .int .i64 fk, .int .i64 fsec, .int .i64 fa, .int .i64 ft, .bool fl, .slice oao okeep.length ocap] TOp) := fun W hW => by
        refine (hW.block _ (Array.getElem?_eq_some_iff.1 HX1.out).1 (fun hm => ?_)).trans HX1.out
        have := HLt.out _ hm
        omega
      have HBX : Hid (∀ W, Kp W1 W (fp b ms ml qv fv) → W.heap[wr.heap.size]? = some (.cells #[.int .i64 okind, .int .i64 osec, .int .u8 ofill, .int .i64 omore, .int .i64 fk, .int .i64 fsec, .int .i64 fa, .int .i64 ft, .bool fl, .slice oao okeep.length ocap] TOp)) := hbx
      clear hbx
      by_cases k2 : okind = 2
      · subst k2
        go_wp2_with fail
        rw [← HWe.out]
        have HBd : Hid (Below W1.heap.size W1 W1.drew) := w_drewN W1 1
        have HBy := bytes_any W1.drew ofill omore (HOk.out W1 (Below.refl _ _)).fill
        have hbl0 : 0 < blen omore ∧ blen omore ≤ 1023 := by unfold blen; split <;> omega
        have HBl : Hid (0 < blen omore ∧ blen omore ≤ 1023) := hbl0
        have HYs : Hid (∀ W, Kp W1 W (fp b ms ml qv fv) → W.cell? ⟨wr.heap.size, 1, none⟩ = some (.int .i64 osec) ∧ W.cell? ⟨wr.heap.size, 2, none⟩ = some (.int .u8 ofill) ∧ W.cell? ⟨wr.heap.size, 3, none⟩ = some (.int .i64 omore)) := fun W hW => by
          have h1 := HBX.out W hW
          exact ⟨(cell_of h1).trans rfl, (cell_of h1).trans rfl, (cell_of h1).trans rfl⟩
        obtain ⟨m, hm⟩ : ∃ m, m = blen omore := ⟨_, rfl⟩
        have HM : Hid (m = blen omore) := hm
        obtain ⟨bl, hbl⟩ : ∃ bl, bl = bytesL ofill (blen omore) := ⟨_, rfl⟩
        have HBL : Hid (bl = bytesL ofill (blen omore)) := hbl
        rw [← hm] at HBy
        rw [← hm] at hbl
        rw [← hbl] at HBy
        have HWA : Hid (∀ (W2 : World) (v : Value), W2.ownsRow W1.drew.heap.size 5 1 v m (bl.map bv) → Below W1.drew.heap.size W1.drew W2 → ∃ g2 c2, v = .slice (some ⟨g2, 0, none⟩) m c2 ∧ Kp W1 W2 (fp b ms ml qv fv) ∧ Calls Try.prog 8 #[.pointer (some ⟨b, 0, none⟩), .int .i64 osec, .slice (some ⟨g2, 0, none⟩) m c2] W2 fun r W' => r = .returned (.int .i64 (wrE S osec bl)) ∧ ∃ qv' fv1, Wh w W' b ms ml qv' fv1 (wrS S osec bl) (i + 1) ∧ Kp W1 W' (fp b ms ml qv fv)) := fun W2 v ho2 hb2 => by
          obtain ⟨g2, c2, cur2, rfl, hg2, hk2, hc2⟩ := own_form ho2 (by rw [HM.out]; exact HBl.out.1)
          have hB2 : Below W1.heap.size W1 W2 := HBd.out.trans (hb2 : Below W1.heap.size W1.drew W2)
          have hW2 := HW1.out.later hB2
          refine ⟨g2, c2, rfl, Kp.of_below hB2 _, ?_⟩
          refine (write_gen hW2.hs.rk hW2.fs (by have := hW2.ql; omega) osec (l := bl) (by rw [HBL.out]; exact bytesL_lt _ _) (m := m) (by rw [HBL.out, HM.out]; exact bytesL_len _ _) (by have := HBl.out.2; have := HM.out; omega) (sb := g2) (so := 0) (cap := c2) (fun j v hv => ?_) (fun hm => ?_)).mono ?_
          · rw [List.getElem?_map] at hv
            cases hx : bl[j]? with
            | none => rw [hx] at hv; cases hv
            | some x => rw [hx] at hv; cases hv; rw [Nat.zero_add]; exact (cell_of hk2).trans (hc2 j x hx)
          · have h9 := HW1.out.hs.rk.lt _ hm
            have h8 : W1.heap.size ≤ g2 := hg2
            omega
          · rintro r W3 ⟨rfl, qv', fv1, ha⟩
            exact ⟨rfl, qv', fv1, ⟨hW2.hs.step ha, wrS_ok hW2.fs osec bl, Nat.le_trans (wrS_q S osec bl) (by have := hW2.ql; omega)⟩, (Kp.of_below hB2 _).trans ha.kp (fun i hi => .inl hi)⟩
        clear hm hbl hbl0 q0 q1 q2 q3 q4 q5 q6 q7 q8 q9
        go_region_held3 (fun w' => w'.cell? ⟨wr.heap.size, 1, none⟩ = some (.int .i64 osec) ∧ w'.cell? ⟨wr.heap.size, 2, none⟩ = some (.int .u8 ofill) ∧ w'.cell? ⟨wr.heap.size, 3, none⟩ = some (.int .i64 omore)) (first | exact HYs.out _ (Kp.refl _ _) | exact HYs.out _ (Kp.of_below HBd.out _) | exact HYs.out _ HK2.out | exact HYs.out _ HK3.out | go_keep) (first | (go_at_call 9; refine Calls.mono HBy ?_; rintro r W2 ⟨v, rfl, ho2, hb2⟩; obtain ⟨g2, c2, rfl, hk2, hwr⟩ := HWA.out W2 v ho2 hb2; have HK2 : Hid (Kp W1 W2 (fp b ms ml qv fv)) := hk2; clear ho2 hb2 hk2) | (go_at_call 8; refine hwr.mono ?_; rintro r W3 ⟨rfl, qv', fv1, hw3, hk3⟩; have HW3 : Hid (Wh w W3 b ms ml qv' fv1 (wrS S osec bl) (i + 1)) := hw3; have HK3 : Hid (Kp W1 W3 (fp b ms ml qv fv)) := hk3; clear hw3 hk3 hwr))
        go_wp2
        go_roundw
        case rel => exact ⟨i + 1, by omega, by go_num, ⟨_, _, _, _, _, HW3.out⟩⟩
        case measure => simp [intOf]; omega
      · by_cases k4 : okind = 4
        · subst k4
          go_wp2_with fail
          rw [← HWe.out]
          refine Calls.mono (fault_gen HW1.out.hs.rk HW1.out.fs ⟨fk, fsec, fa, ft, fl⟩) ?_
          rintro r W3 ⟨rfl, fv1, ha⟩
          have HW3 : Hid (Wh w W3 b ms ml qv fv1 (faS S ⟨fk, fsec, fa, ft, fl⟩) (i + 1)) := ⟨HW1.out.hs.step ha, faS_ok HW1.out.fs (HOk.out W1 (Below.refl _ _)).fa (HOk.out W1 (Below.refl _ _)).ft, by rw [faS_q]; have := HW1.out.ql; omega⟩
          clear ha
          go_wp2
          go_roundw
          case rel => exact ⟨i + 1, by omega, by go_num, ⟨_, _, _, _, _, HW3.out⟩⟩
          case measure => simp [intOf]; omega
        · by_cases k3 : okind = 3
          · subst k3
            go_wp2_with fail
            rw [← HWe.out]
            refine Calls.mono (image_any HW1.out.hs.rk) ?_
            rintro r W2 ⟨v2, rfl, ho2, ha2⟩
            have HW2 : Hid (Wh w W2 b ms ml qv fv S i) := ⟨HW1.out.hs.step ha2, HW1.out.fs, HW1.out.ql⟩
            obtain ⟨g2, c2, rfl, hI2⟩ := im_new HW1.out.hs.rk HW2.out.hs.rk ho2
            have HI2 : Hid (Im W2 (fp b ms ml qv fv) g2 c2 S.n S.safe) := hI2
            clear ha2 ho2 hI2
            go_wp2_with fail
            refine Calls.mono (queue_any HW2.out.hs.rk (by have := HW2.out.ql; omega)) ?_
            rintro r W3 ⟨v3, ps, rfl, ht3, hp3, ha3⟩
            have HW3 : Hid (Wh w W3 b ms ml qv fv S i) := ⟨HW2.out.hs.step ha3, HW2.out.fs, HW2.out.ql⟩
            have HI3 : Hid (Im W3 (fp b ms ml qv fv) g2 c2 S.n S.safe) := HI2.out.step ha3
            have HT3 : Hid (Td W3 (fp b ms ml qv fv) v3 ps) := td_new HW2.out.hs.rk ht3
            have HP : Hid (ps.map bare = S.q) := hp3
            obtain ⟨o3, c3, hv3⟩ := own_slice ht3.row
            subst hv3
            obtain ⟨m3, hm3⟩ : ∃ m3, m3 = ps.length := ⟨_, rfl⟩
            have HM3 : Hid (ps.length = m3) := hm3.symm
            rw [← hm3] at HT3 ⊢
            have hm3l : m3 ≤ 1048576 := by have h1 := congrArg List.length hp3; rw [List.length_map] at h1; have := HW2.out.ql; omega
            have HPO : Hid (∀ x ∈ ps, OkB x.2.2) := fun x hx => (HW3.out.hs.rk.qok (bare x) (by rw [← HP.out]; exact List.mem_map_of_mem hx)).2
            clear ha3 ht3 hp3 HI2 hm3
            go_wp2_with fail
            refine Calls.mono (barrier_gen HW3.out.hs.rk HW3.out.fs (by have := HW3.out.ql; omega)) ?_
            rintro r W4 ⟨rfl, ml4, qv4, fv4, ha4⟩
            have HW4 : Hid (Wh w W4 b ms ml4 qv4 fv4 (baS S) i) := ⟨HW3.out.hs.step ha4, baS_ok HW3.out.fs, Nat.le_trans (baS_q S) HW3.out.ql⟩
            have HI4 : Hid (Im W4 (fp b ms ml4 qv4 fv4) g2 c2 S.n S.safe) := HI3.out.step ha4
            have HT4 : Hid (Td W4 (fp b ms ml4 qv4 fv4) (.slice o3 m3 c3) ps) := HT3.out.step ha4
            clear ha4 HI3 HT3
            go_wp2_with fail
            refine Calls.mono (image_any HW4.out.hs.rk) ?_
            rintro r W5 ⟨v5, rfl, ho5, ha5⟩
            have HW5 : Hid (Wh w W5 b ms ml4 qv4 fv4 (baS S) i) := ⟨HW4.out.hs.step ha5, HW4.out.fs, HW4.out.ql⟩
            have HI5 : Hid (Im W5 (fp b ms ml4 qv4 fv4) g2 c2 S.n S.safe) := HI4.out.step ha5
            have HT5 : Hid (Td W5 (fp b ms ml4 qv4 fv4) (.slice o3 m3 c3) ps) := HT4.out.step ha5
            obtain ⟨g5, c5, hv5, hI5⟩ := im_new HW4.out.hs.rk HW5.out.hs.rk ho5
            subst hv5
            have hbn : (baS S).n = S.n := by unfold baS; split <;> simp [failS_n, barred, settled]
            rw [hbn] at hI5 ⊢
            have HN5 : Hid (Im W5 (fp b ms ml4 qv4 fv4) g5 c5 S.n (baS S).safe) := hI5
            clear ha5 ho5 hI5 HI4 HT4 hbn
            by_cases hh : hitF S.fs 3 (-1) = true
            · have hE : baE S = 33 := by unfold baE; rw [if_pos hh]
              have hS : baS S = failS S 3 (-1) := by unfold baS; rw [if_pos hh]
              rw [hE]
              have hsf : (baS S).safe = S.safe := by rw [hS]; exact failS_safe _ _ _
              have hqq : (baS S).q = S.q := by rw [hS]; exact failS_q _ _ _
              have hil : (imgL S.n S.safe).length = S.n * 512 := imgL_len (fun t ht => (HI5.out.im.ok t ht).len)
              have hit : ∀ x ∈ imgL S.n S.safe, x < 256 := fun x hx => by
                obtain ⟨t, ht, hx⟩ := List.mem_flatMap.1 hx
                exact (HI5.out.im.ok t (List.mem_range.1 ht)).lt x hx
              have hn6 := HI5.out.im.n1
              have hr5 := HN5.out.im.row
              rw [hsf] at hr5
              obtain ⟨a1, k1, e1, b1⟩ := own_brow HI5.out.im.row hil hit (by omega)
              obtain ⟨a2, k2, e2, b2⟩ := own_brow hr5 hil hit (by omega)
              simp at e1 e2
              obtain ⟨rfl, rfl⟩ := e1
              obtain ⟨rfl, rfl⟩ := e2
              have hsm := same_any _ _ _ _ _ _ W5 b1 b2
              rw [hil, decide_eq_true rfl] at hsm
              have HQ : Hid (∀ W, Below W5.heap.size W5 W → Calls Try.prog 12 #[.pointer (some ⟨b, 0, none⟩)] W fun r W' => ∃ ao c, r = .returned (.slice ao m3 c) ∧ ∃ ms ml qv fv S', Wh w W' b ms ml qv fv S' (i + 1)) := fun W hW => by
                have hw := HW5.out.later hW
                refine (queue_any hw.hs.rk (by have := hw.ql; omega)).mono ?_
                rintro r W' ⟨v, ps', rfl, ht, hp, ha⟩
                obtain ⟨ao, c, rfl⟩ := own_slice ht.row
                have hl' : ps'.length = m3 := by have h1 := congrArg List.length hp; rw [hqq, ← HP.out, List.length_map, List.length_map] at h1; rw [h1, HM3.out]
                exact ⟨ao, c, by rw [hl'], _, _, _, _, _, ⟨hw.hs.step ha, hw.fs, Nat.le_trans hw.ql (by omega)⟩⟩
              clear hil hit hr5 b1 b2 hsf hqq hS hE
              go_wp2_with fail
              refine hsm.mono ?_
              clear hsm
              rintro e W6 ⟨rfl, q6, rfl⟩
              go_wp2_with fail
              refine (HQ.out _ (w_drewN W5 q6)).mono ?_
              clear HQ
              rintro e W7 ⟨ao7, c7, rfl, hw7⟩
              have HW7 : Hid (∃ ms ml qv fv S', Wh w W7 b ms ml qv fv S' (i + 1)) := hw7
              clear hw7
              go_wp2
              go_roundw
              case rel => exact ⟨i + 1, by omega, by go_num, HW7⟩
              case measure => simp [intOf]; omega
            · have hE : baE S = 0 := by unfold baE; rw [if_neg hh]
              have hS : baS S = barred (failS S 3 (-1)) := by unfold baS; rw [if_neg hh]
              rw [hE]
              have hqq : (baS S).q = [] := by rw [hS]; rfl
              have hla := laid_yes HI5.out.im HN5.out.im HT5.out.row HT5.out.dat HPO.out (by have := HM3.out; omega) (fun t ht => by
                rw [hS]
                show layTo (fun _ => true) (failS S 3 (-1)).q (failS S 3 (-1)).safe (failS S 3 (-1)).q.length t = _
                rw [failS_q, failS_safe, lay_last, List.take_length, ← HP.out])
              have HQ : Hid (∀ W, Below W5.heap.size W5 W → Calls Try.prog 12 #[.pointer (some ⟨b, 0, none⟩)] W fun r W' => ∃ ao c, r = .returned (.slice ao 0 c) ∧ ∃ ms ml qv fv S', Wh w W' b ms ml qv fv S' (i + 1)) := fun W hW => by
                have hw := HW5.out.later hW
                refine (queue_any hw.hs.rk (by have := hw.ql; omega)).mono ?_
                rintro r W' ⟨v, ps', rfl, ht, hp, ha⟩
                obtain ⟨ao, c, rfl⟩ := own_slice ht.row
                have hl' : ps'.length = 0 := by have h1 := congrArg List.length hp; rw [hqq, List.length_map] at h1; exact h1
                exact ⟨ao, c, by rw [hl'], _, _, _, _, _, ⟨hw.hs.step ha, hw.fs, Nat.le_trans hw.ql (by omega)⟩⟩
              clear hqq hS hE
              go_wp2_with fail
              refine hla.mono ?_
              clear hla
              rintro e W6 ⟨rfl, hb6⟩
              have hQ6 := HQ.out W6 hb6
              clear HQ hb6
              go_wp2_with fail
              refine hQ6.mono ?_
              clear hQ6
              rintro e W7 ⟨ao7, c7, rfl, hw7⟩
              have HW7 : Hid (∃ ms ml qv fv S', Wh w W7 b ms ml qv fv S' (i + 1)) := hw7
              clear hw7
              go_wp2
              go_roundw
              case rel => exact ⟨i + 1, by omega, by go_num, HW7⟩
              case measure => simp [intOf]; omega
          · by_cases k5 : okind = 5
            · subst k5
              go_wp2_with fail
              rw [← HWe.out]
              refine Calls.mono (image_any HW1.out.hs.rk) ?_
              rintro r W2 ⟨v2, rfl, ho2, ha2⟩
              have HW2 : Hid (Wh w W2 b ms ml qv fv S i) := ⟨HW1.out.hs.step ha2, HW1.out.fs, HW1.out.ql⟩
              have HK2 : Hid (Kp W1 W2 (fp b ms ml qv fv)) := ha2.kp
              obtain ⟨g2, c2, rfl, hI2⟩ := im_new HW1.out.hs.rk HW2.out.hs.rk ho2
              have HI2 : Hid (Im W2 (fp b ms ml qv fv) g2 c2 S.n S.safe) := hI2
              clear ha2 ho2 hI2
              go_wp2_with fail
              refine Calls.mono (queue_any HW2.out.hs.rk (by have := HW2.out.ql; omega)) ?_
              rintro r W3 ⟨v3, ps, rfl, ht3, hp3, ha3⟩
              have HW3 : Hid (Wh w W3 b ms ml qv fv S i) := ⟨HW2.out.hs.step ha3, HW2.out.fs, HW2.out.ql⟩
              have HI3 : Hid (Im W3 (fp b ms ml qv fv) g2 c2 S.n S.safe) := HI2.out.step ha3
              have HK3 : Hid (Kp W1 W3 (fp b ms ml qv fv)) := HK2.out.trans ha3.kp (fun i hi => .inl hi)
              have HT3 : Hid (Td W3 (fp b ms ml qv fv) v3 ps) := td_new HW2.out.hs.rk ht3
              have HP : Hid (ps.map bare = S.q) := hp3
              obtain ⟨o3, c3, hv3⟩ := own_slice ht3.row
              subst hv3
              obtain ⟨m3, hm3⟩ : ∃ m3, m3 = ps.length := ⟨_, rfl⟩
              have HM3 : Hid (ps.length = m3) := hm3.symm
              rw [← hm3] at HT3 ⊢
              have hm3l : m3 ≤ 1048576 := by have h1 := congrArg List.length hp3; rw [List.length_map] at h1; have := HW2.out.ql; omega
              have HPO : Hid (∀ x ∈ ps, OkB x.2.2) := fun x hx => (HW3.out.hs.rk.qok (bare x) (by rw [← HP.out]; exact List.mem_map_of_mem hx)).2
              have y9 : W3.cell? ⟨wr.heap.size, 9, none⟩ = some (.slice oao okeep.length ocap) := (cell_of (HBX.out W3 HK3.out)).trans rfl
              clear ha3 ht3 hp3 HI2 hm3
              have hkr : BoRow W3 oao ocap okeep := (HOk.out W1 (Below.refl _ _)).row.kept HK3.out (fun ad e hne hm => by
                have h1 := (HOw.out).row.at_ hne
                obtain ⟨bb, off', e2, hcc⟩ := h1
                have e3 : oao = some ad := e
                rw [e3] at e2
                cases e2
                have h5 : bb < w.heap.size := by
                  cases okeep with
                  | nil => exact absurd rfl hne
                  | cons x r => exact cell_lt (hcc 0 x rfl)
                have h6 : w.heap.size ≤ bb := HW1.out.hs.own _ hm
                omega)
              have hcr := crash_any HW3.out.hs.rk (by have := HW3.out.ql; omega) hkr rfl (fun ad e hne hm => by
                have h1 := (HOw.out).row.at_ hne
                obtain ⟨bb, off', e2, hcc⟩ := h1
                rw [show oao = some ad from e] at e2
                cases e2
                have h5 : bb < w.heap.size := by
                  cases okeep with
                  | nil => exact absurd rfl hne
                  | cons x r => exact cell_lt (hcc 0 x rfl)
                have h6 : w.heap.size ≤ bb := HW3.out.hs.own _ hm
                omega)
              clear hkr
              go_wp2_with fail
              refine hcr.mono ?_
              clear hcr
              rintro r W4 ⟨rfl, ml4, ha4⟩
              have HW4 : Hid (Wh w W4 b ms ml4 (.slice none 0 0) (.slice none 0 0) (crashed okeep S) i) := ⟨HW3.out.hs.step ha4, ⟨by simp [crashed], by simp [crashed]⟩, by simp [crashed, settled]⟩
              have HI4 : Hid (Im W4 (fp b ms ml4 (.slice none 0 0) (.slice none 0 0)) g2 c2 S.n S.safe) := HI3.out.step ha4
              have HT4 : Hid (Td W4 (fp b ms ml4 (.slice none 0 0) (.slice none 0 0)) (.slice o3 m3 c3) ps) := HT3.out.step ha4
              clear ha4 HI3 HT3 y9
              go_wp2_with fail
              refine Calls.mono (image_any HW4.out.hs.rk) ?_
              rintro r W5 ⟨v5, rfl, ho5, ha5⟩
              have HW5 : Hid (Wh w W5 b ms ml4 (.slice none 0 0) (.slice none 0 0) (crashed okeep S) i) := ⟨HW4.out.hs.step ha5, HW4.out.fs, HW4.out.ql⟩
              have HI5 : Hid (Im W5 (fp b ms ml4 (.slice none 0 0) (.slice none 0 0)) g2 c2 S.n S.safe) := HI4.out.step ha5
              have HT5 : Hid (Td W5 (fp b ms ml4 (.slice none 0 0) (.slice none 0 0)) (.slice o3 m3 c3) ps) := HT4.out.step ha5
              obtain ⟨g5, c5, hv5, hI5⟩ := im_new HW4.out.hs.rk HW5.out.hs.rk ho5
              subst hv5
              have HN5 : Hid (Im W5 (fp b ms ml4 (.slice none 0 0) (.slice none 0 0)) g5 c5 S.n (crashed okeep S).safe) := hI5
              have ham := among_yes HI5.out.im HN5.out.im HT5.out.row HT5.out.dat HPO.out (by have := HM3.out; omega) (fun t ht => by
                rcases lay_among (fun j => okeep.getD j false) S.q S.safe t S.q.length with h1 | ⟨x, hx, h1, h2⟩
                · exact .inl h1
                · rw [← HP.out] at hx
                  obtain ⟨y, hy, rfl⟩ := List.mem_map.1 hx
                  exact .inr ⟨y, hy, h1, h2⟩)
              have HQ : Hid (∀ W, Below W5.heap.size W5 W → Calls Try.prog 12 #[.pointer (some ⟨b, 0, none⟩)] W fun r W' => ∃ ao c, r = .returned (.slice ao 0 c) ∧ Wh w W' b ms ml4 (.slice none 0 0) (.slice none 0 0) (crashed okeep S) i) := fun W hW => by
                have hw := HW5.out.later hW
                refine (queue_any hw.hs.rk (by have := hw.ql; omega)).mono ?_
                rintro r W' ⟨v, ps', rfl, ht, hp, ha⟩
                obtain ⟨ao, c, rfl⟩ := own_slice ht.row
                have hl' : ps'.length = 0 := by have h1 := congrArg List.length hp; rw [List.length_map] at h1; exact h1
                exact ⟨ao, c, by rw [hl'], ⟨hw.hs.step ha, hw.fs, hw.ql⟩⟩
              clear ha5 ho5 hI5 HI4 HT4
              go_wp2_with fail
              refine ham.mono ?_
              clear ham
              rintro e W6 ⟨rfl, hb6⟩
              have hQ6 := HQ.out W6 hb6
              clear HQ hb6
              go_wp2_with fail
              refine hQ6.mono ?_
              clear hQ6
              rintro e W7 ⟨ao7, c7, rfl, hw7⟩
              have HW7 : Hid (Wh w W7 b ms ml4 (.slice none 0 0) (.slice none 0 0) (crashed okeep S) i) := hw7
              clear hw7
              go_wp2_with fail
              refine Calls.mono (faults_any HW7.out.hs.rk HW7.out.fs) ?_
              rintro e W8 ⟨v8, rfl, ho8, ha8⟩
              obtain ⟨ao8, c8, hv8⟩ := own_slice ho8
              subst hv8
              have HW8 : Hid (∃ ms ml qv fv S', Wh w W8 b ms ml qv fv S' (i + 1)) := ⟨_, _, _, _, _, ⟨HW7.out.hs.step ha8, HW7.out.fs, Nat.le_trans HW7.out.ql (by omega)⟩⟩
              clear ho8 ha8
              rw [show (crashed okeep S).fs.length = 0 from rfl]
              go_wp2
              go_roundw
              case rel => exact ⟨i + 1, by omega, by go_num, HW8⟩
              case measure => simp [intOf]; omega
            · go_wp2
              rw [← HWe.out]
              go_roundw
              case rel => exact ⟨i + 1, by omega, by go_num, ⟨_, _, _, _, _, HW1.out.more (by omega)⟩⟩
              case measure => simp [intOf]; omega
    · have e : i = n := by omega
      subst e
      obtain ⟨ms, ml, qv, fv, S, hwh⟩ := HW.out
      have hhd := heads_any wr
      have HB : Hid (Below w.heap.size w wr) := hwh.hs.bl
      clear hwh
      go_wp2_with fail
      refine hhd.mono ?_
      clear hhd
      rintro e w2 ⟨rfl, hb2⟩
      have HB2 : Hid (Below w.heap.size w w2) := HB.out.trans (hb2.mono HB.out.size)
      clear hb2
      go_wp2
      go_ret
      exact ⟨rfl, HB2.out⟩
set_option maxHeartbeats 2000000 in
theorem lawWhole_bad (w : World) (ns : Int) (h : ns < 1 ∨ 65536 < ns) (ao : Option Addr) (n cap : Nat) :
    Calls Try.prog 3 #[.int .i64 ns, .slice ao n cap] w fun r w' => r = .returned (.bool true) ∧ Below w.heap.size w w' := by
  have hnew := new_bad w ns h
  have hhd := heads_any w
  by_cases h1 : ns < 1
  · clear h
    go_enter Try.func3, Try.ntmps3
    go_wp2_with fail
    refine hnew.mono ?_
    clear hnew
    rintro e w1 ⟨rfl, rfl⟩
    go_wp2_with fail
    refine hhd.mono ?_
    clear hhd
    rintro e w2 ⟨rfl, hb2⟩
    go_wp2
    go_ret
    exact ⟨rfl, hb2⟩
  · have h2 : 65536 < ns := h.resolve_left h1
    clear h
    go_enter Try.func3, Try.ntmps3
    go_wp2_with fail
    refine hnew.mono ?_
    clear hnew
    rintro e w1 ⟨rfl, rfl⟩
    go_wp2_with fail
    refine hhd.mono ?_
    clear hhd
    rintro e w2 ⟨rfl, hb2⟩
    go_wp2
    go_ret
    exact ⟨rfl, hb2⟩
end Go.Proofs.Ythmonfmpgjbhmab.K
