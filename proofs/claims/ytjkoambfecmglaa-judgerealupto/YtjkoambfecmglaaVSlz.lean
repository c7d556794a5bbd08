import Derived.Test.YtjkoambfecmglaaVSkz
import Derived.Lib.SmallJoins
import Derived.WalkMore
namespace Go.Proofs.Ytjkoambfecmglaa
open Go.RowKit Go.Maps
set_option linter.unusedVariables false
set_option linter.unusedSimpArgs false
set_option maxRecDepth 100000
theorem Try.info91 : (Try.prog.info? 91).map (fun i => (i.zero, i.size, i.bytes)) = some (some (.int .u16 0), 1, 2) := by kernel_rfl
theorem Try.under88 : Try.prog.underlying 88 = some (.slice 91) := by kernel_rfl
theorem Try.info97 : (Try.prog.info? 97).map (fun i => (i.zero, i.size, i.bytes)) = some (some (.agg #[.int .u16 0, .slice none 0 0, .int .i64 0]), 3, 40) := by kernel_rfl
theorem Try.under92 : Try.prog.underlying 92 = some (.slice 97) := by kernel_rfl
theorem run_sets (w : World) {n : Nat} (hn : n ≤ 1099511627776) : (Instr.makeSlice 88 (.int .i64 (n : Int)) (.int .i64 (n : Int))).run Try.prog w = .ok (.slice (some ⟨w.heap.size, 0, none⟩) n n) (w.alloc (.cells (Array.replicate n (Value.int .u16 0)) 91)) := by
  obtain ⟨i0, hi, hz0, hz1, hz2⟩ := info_parts Try.info91
  have h1 := run_make (P := Try.prog) w 88 91 i0 (.int .u16 0) Try.under88 hi hz0 .i64 .i64 (n : Int) (n : Int) (by omega) (Int.le_refl _) (by rw [hz2]; omega) (by omega)
  rw [Int.toNat_natCast, hz1] at h1
  rw [h1]
  congr 3
  apply Array.ext_getElem?
  intro k
  rcases Nat.lt_or_ge k n with hk | hk
  · simp [madeCells, Value.cells, hk, Nat.mod_one]
  · rw [Array.getElem?_eq_none (by simp [madeCells]; omega), Array.getElem?_eq_none (by simp; omega)]
theorem ahOf_set0 {l : List Opv} {i : Nat} (hi : i < l.length) : (ahOf l i).set i 0 = ahOf l i := by
  apply List.ext_getElem?
  intro k
  by_cases e : i = k
  · subst e
    rw [List.getElem?_set_self (by rw [ahOf_len]; exact hi), ahOf_at (Nat.le_refl _) hi]
  · rw [List.getElem?_set_ne e]
theorem mask16 {ks : List Nat} {n : Nat} (hn : n ≤ 16) (h : ∀ x ∈ ks, x < n) : mask ks < 65536 :=
  Nat.lt_of_lt_of_le (mask_lt h) (Nat.pow_le_pow_right (n := 2) (by decide) hn)
theorem owOf_mask {l : List Opv} {i m : Nat} (hi : i ≤ m) (hm : m ≤ 10) : mask (owOf l i) < 65536 := mask16 (n := m) (by omega) fun x hx => Nat.lt_of_lt_of_le (owOf_mem.1 hx).1 hi
theorem befOf_mask {l : List Opv} {p : Opv} {i m : Nat} (hi : i ≤ m) (hm : m ≤ 10) : mask (befOf l p i) < 65536 := mask16 (n := m) (by omega) fun x hx => Nat.lt_of_lt_of_le (befOf_mem.1 hx).1 hi
/-- what a search is made with, before its levels -/
theorem sb_new (w : World) (oa : Option Addr) {m oc n : Nat} {l : List Opv} (hl : l.length = m) (hm : m ≤ 1099511627776) :
    Sb (((w.alloc (.cells (Array.replicate m (Value.int .u16 0)) 91)).alloc (.map #[] 0)).alloc (.cells #[.slice oa m oc, .int .u16 0, .slice (some ⟨w.heap.size, 0, none⟩) m m, .slice none 0 0, .map (some (w.heap.size + 1))] 94)) w.heap.size (w.heap.size + 2) oa m oc (mask (owOf l 0)) w.heap.size (ahOf l 0) (.slice none 0 0) n [] (w.heap.size + 1) := by
  have z1 : (w.alloc (.cells (Array.replicate m (Value.int .u16 0)) 91)).heap.size = w.heap.size + 1 := World.size_alloc _ _
  have z2 : ((w.alloc (.cells (Array.replicate m (Value.int .u16 0)) 91)).alloc (.map #[] 0)).heap.size = w.heap.size + 2 := by rw [World.size_alloc, z1]
  have h1 : (((w.alloc (.cells (Array.replicate m (Value.int .u16 0)) 91)).alloc (.map #[] 0)).alloc (.cells #[.slice oa m oc, .int .u16 0, .slice (some ⟨w.heap.size, 0, none⟩) m m, .slice none 0 0, .map (some (w.heap.size + 1))] 94)).heap[w.heap.size + 2]? = some (.cells #[.slice oa m oc, .int .u16 0, .slice (some ⟨w.heap.size, 0, none⟩) m m, .slice none 0 0, .map (some (w.heap.size + 1))] 94 (0, 0)) := by
    have := heap_new ((w.alloc (.cells (Array.replicate m (Value.int .u16 0)) 91)).alloc (.map #[] 0)) (.cells #[.slice oa m oc, .int .u16 0, .slice (some ⟨w.heap.size, 0, none⟩) m m, .slice none 0 0, .map (some (w.heap.size + 1))] 94)
    rw [z2] at this; exact this
  have h2 : (((w.alloc (.cells (Array.replicate m (Value.int .u16 0)) 91)).alloc (.map #[] 0)).alloc (.cells #[.slice oa m oc, .int .u16 0, .slice (some ⟨w.heap.size, 0, none⟩) m m, .slice none 0 0, .map (some (w.heap.size + 1))] 94)).heap[w.heap.size + 1]? = some (.map #[] 0) := by
    have h3 := (World.grownBy_alloc ((w.alloc (.cells (Array.replicate m (Value.int .u16 0)) 91)).alloc (.map #[] 0)) (.cells #[.slice oa m oc, .int .u16 0, .slice (some ⟨w.heap.size, 0, none⟩) m m, .slice none 0 0, .map (some (w.heap.size + 1))] 94) none).block (w.heap.size + 1) (by rw [z2]; omega) (by simp)
    have h4 := heap_new (w.alloc (.cells (Array.replicate m (Value.int .u16 0)) 91)) (.map #[] 0)
    rw [z1] at h4
    exact h3.trans h4
  refine ⟨?_, by omega, ?_, ⟨rfl, .inl ⟨rfl, rfl⟩⟩, fun j v h => by simp at h, fun i j u v g _ h => by simp at h, by omega, ?_⟩
  · rw [show mask (owOf l 0) = 0 by simp [owOf, mask]]
    exact h1
  · rw [ahOf_zero, hl, List.map_replicate]
    have hz : (w.alloc (.cells (Array.replicate m (Value.int .u16 0)) 91)).ownsRow w.heap.size 91 1 (.slice (some ⟨w.heap.size, 0, none⟩) m m) m (List.replicate m (sv 0)) :=
      ⟨by simp, .inr ⟨w.heap.size, m, _, rfl, Nat.le_refl _, heap_new _ _, Nat.le_refl _, by unfold maxLen; omega, by simp, by simp⟩⟩
    exact owns_far (owns_far hz (World.grownBy_alloc _ _ none) (by simp)) (World.grownBy_alloc _ _ none) (by simp)
  · exact Go.Joins.ownsMap_empty h2
theorem upon_append {P : Program} {o : Oper} {a : Act} {K : Act → World → Prop} {Q : Exit → Act → World → Prop} {w w' : World} {v xv v' : Value} (s x : Operand) (t : TypeId) (hgd : o.guard = none)
    (ho : o.op = .call { callee := .builtin .append, args := #[s, x], argTypes := #[t, t] }) (hs : a.eval s = v) (hx : a.eval x = xv)
    (hr : (Builtin.append_ #[t, t] o.type #[v, xv]).run P w = .ok v' w') (y : Nat → Option Bool) (h : K (a.put o.dst v') w') : if Region.wanted o y = true then Oper.wp P o a w K Q else K (a.put o.dst undef) w := by
  rw [if_pos (by simp [Region.wanted, hgd])]
  unfold Oper.wp
  unfold execOp
  simp only [ho, resolve, invoke, builtin, Sem.run_bind, Sem.run_pure, Result.andThen_ok, List.map_toArray, List.map_cons, List.map_nil, hs, hx, hr]
  exact h
/-- what is appended to the levels, as a run -/
theorem sb_append {w wq W1 : World} {B Q m oc A gh n r cc : Nat} {oa co : Option Addr} {ah : List Nat} {L : List Lv} {lv : Value} {bs : List Nat} (h : Sb W1 B Q oa m oc A gh ah lv n L r) (hL : L.length ≤ 1099511627776) (hBw : B ≤ wq.heap.size) (hb1 : Below wq.heap.size wq.drew W1) (hbd : Below B w wq.drew) :
    ∃ va vcn W3, (Builtin.append_ #[92, 92] 92 #[lv, .slice (some ⟨W1.heap.size, 0, none⟩) 1 1]).run Try.prog (W1.alloc (.cells #[.int .u16 0, .slice co n cc, .int .i64 0] 97)) = .ok (.slice va (L.length + 1) vcn) W3 ∧ W3.ownsRow B 97 3 (.slice va (L.length + 1) vcn) (L.length + 1) (lcells n L ++ Lv.cells n ⟨0, 0, co, cc, bs⟩) ∧ (W1.alloc (.cells #[.int .u16 0, .slice co n cc, .int .i64 0] 97)).grownBy W3 lv.ownBlock := by
  obtain ⟨i0, hi, hz0, hz1, hz2⟩ := info_parts Try.info97
  have hX : Below W1.heap.size W1 (W1.alloc (.cells #[.int .u16 0, .slice co n cc, .int .i64 0] 97)) := (Below.refl _ _).alloc (Nat.le_refl _) _
  have ho : (W1.alloc (.cells #[.int .u16 0, .slice co n cc, .int .i64 0] 97)).ownsRow B 97 3 lv L.length (lcells n L) := rows_same h.lvs fun g e => hX.block g (owns_in h.lvs e).2
  obtain ⟨v', W3, h1, h2, h3, _⟩ := run_append_own (P := Try.prog) (w := W1.alloc (.cells #[.int .u16 0, .slice co n cc, .int .i64 0] 97)) B 92 92 97 i0 _ 3 40 Try.under92 hi hz0 hz1 hz2 rfl (by decide) lv L.length (lcells n L) ho ⟨W1.heap.size, 0, none⟩ 1 1 (Lv.cells n ⟨0, 0, co, cc, []⟩) rfl (fun j u hu => by
    rcases j with _ | _ | _ | j
    · cases hu; exact blk_at (heap_new _ _) 0
    · cases hu; exact blk_at (heap_new _ _) 1
    · cases hu; exact blk_at (heap_new _ _) 2
    · simp at hu) (by simp [Value.oneCell']) (by unfold maxLen; omega) (by omega) (by rw [World.size_alloc]; have := hb1.size; have h9 : wq.drew.heap.size = wq.heap.size := rfl; omega)
  rcases h2.2 with ⟨_, h0⟩ | ⟨g, cap, cur, hv, _⟩
  · exfalso; omega
  · rw [hv] at h1 h2; exact ⟨_, _, W3, h1, h2, h3⟩
theorem sb_kept {W X W3 : World} {B Q m oc A gh n r : Nat} {oa : Option Addr} {ah : List Nat} {L : List Lv} {lv u : Value} (h : Sb W B Q oa m oc A gh ah lv n L r) (hX : Below W.heap.size W X) (hg : X.grownBy W3 lv.ownBlock) (c : Nat) (hu : #[Value.slice oa m oc, sv A, .slice (some ⟨gh, 0, none⟩) m m, lv, .map (some r)][c]? = some u) : W3.cell? ⟨Q, c, none⟩ = some u := by
  have h1 := block_lt h.blk
  have h2 : W3.heap[Q]? = _ := ((hg.block Q (Nat.lt_of_lt_of_le h1 hX.size) (fun e => by
    obtain ⟨_, cu, hc⟩ := h.lvb e.symm
    rw [h.blk] at hc; cases hc)).trans (hX.block Q h1)).trans h.blk
  rw [← hu]
  exact blk_at h2 c
theorem sb_free {W X W3 : World} {B Q m oc A gh n r : Nat} {oa : Option Addr} {ah : List Nat} {L : List Lv} {lv : Value} (h : Sb W B Q oa m oc A gh ah lv n L r) (hX : Below W.heap.size W X) (hg : X.grownBy W3 lv.ownBlock) (c : Nat) : W3.frozen? ⟨Q, c, none⟩ = false := by
  have h1 := block_lt h.blk
  have h2 : W3.heap[Q]? = _ := ((hg.block Q (Nat.lt_of_lt_of_le h1 hX.size) (fun e => by
    obtain ⟨_, cu, hc⟩ := h.lvb e.symm
    rw [h.blk] at hc; cases hc)).trans (hX.block Q h1)).trans h.blk
  exact blk_free h2 c
set_option maxHeartbeats 32000000 in
/-- the making of a search -/
theorem searchIn_any {w : World} {n fc m oc : Nat} {fa oa : Option Addr} {l : List Opv} {dss : List (List Nat)} {first : List Nat} (hF : BRow w fa fc first) (hfl : first.length = n) (hO : OpsR w oa l) (hml : l.length = m) (hm : m ≤ 10) (hns : n ≤ 4096) :
    Calls Try.prog 32 #[.slice fa n fc, .slice oa m oc] w fun e w' => ∃ Q gh gv vc r L, e = .returned (.pointer (some ⟨Q, 0, none⟩)) ∧ Below w.heap.size w w' ∧ Sm w' w.heap.size Q oa m oc (mask (owOf l m)) gh m (ahOf l m) gv vc n L r 0 (.map []) ∧ ∀ (j : Nat) (v : Lv), L[j]? = some v → v.D = 0 ∧ v.bs = first ∧ v.x = 0 := by
  have HR : Hid (∀ U, Below w.heap.size w U → BRow U fa fc first) := fun U hU => hF.later hU
  have HO : Hid (∀ U, Below w.heap.size w U → OpsR U oa l) := fun U hU => hO.later hU
  have HN : Hid (first.length = n ∧ n ≤ 4096 ∧ ∀ x ∈ first, x < 256) := ⟨hfl, hns, hF.lt⟩
  have HM : Hid (l.length = m ∧ m ≤ 10) := ⟨hml, hm⟩
  have HB0 : Hid (Below w.heap.size w (((w.alloc (.cells (Array.replicate m (Value.int .u16 0)) 91)).alloc (.map #[] 0)).alloc (.cells #[.slice oa m oc, .int .u16 0, .slice (some ⟨w.heap.size, 0, none⟩) m m, .slice none 0 0, .map (some (w.heap.size + 1))] 94))) := (((Below.refl _ w).alloc (Nat.le_refl _) _).alloc (by rw [World.size_alloc]; omega) _).alloc (by rw [World.size_alloc, World.size_alloc]; omega) _
  have HS0 : Hid _ := sb_new (n := n) w oa (oc := oc) hml (by omega)
  have hmk := run_sets w (n := m) (by omega)
  have hmp := fun W => run_makeMap (P := Try.prog) 89 W
  have hmx : m ≤ 1099511627776 := by omega
  clear hF hfl hO hml hm hns
  go_enter Try.func32, Try.ntmps32
  go_wp2_with fail

  go_loopw [19] (fun xv wr => ∃ (i : Nat), i ≤ m ∧ xv = .int .i64 (i : Int) ∧ Hid (Sb wr w.heap.size (w.heap.size + 2) oa m oc (mask (owOf l i)) w.heap.size (ahOf l i) (.slice none 0 0) n [] (w.heap.size + 1) ∧ Below w.heap.size w wr)) (fun xv _ => m - (intOf xv).toNat)
  case atStart => exact ⟨0, Nat.zero_le _, rfl, HS0.out, HB0.out⟩
  case round =>
    obtain ⟨i, hi, rfl, HQ⟩ := hrel
    clear HS0 HB0 hmk hmp
    by_cases hlt : i < m
    · have n9 : decide ((i : Int) < (m : Int)) = true := decide_eq_true (by omega)
      have ii0 : (0 : Int) ≤ (i : Int) := by omega
      have ii9 : (i : Int) < (m : Int) := by omega
      have HIi : Hid ((i : Int) < (m : Int)) := ii9
      have HIm : Hid (i + 1 ≤ m) := hlt
      have HIl : Hid (i < l.length) := by show i < l.length; rw [HM.out.1]; exact hlt
      obtain ⟨o, ho⟩ : ∃ o, l[i]? = some o := ⟨_, List.getElem?_eq_getElem HIl.out⟩
      have HOo : Hid (l[i]? = some o) := ho
      obtain ⟨b, off, e1, hc2⟩ := ops_at (HO.out wr HQ.out.2) ho
      subst e1
      have c0 : wr.cell? ⟨b, off + i * 7, none⟩ = some (.int .i64 o.k) := hc2 0 _ rfl
      have c1 : wr.cell? ⟨b, off + i * 7 + 1, none⟩ = some (.int .i64 o.fr) := hc2 1 _ rfl
      have c2 : wr.cell? ⟨b, off + i * 7 + 2, none⟩ = some (.int .i64 o.to_) := hc2 2 _ rfl
      have c3 : wr.cell? ⟨b, off + i * 7 + 3, none⟩ = some (.int .i64 o.off) := hc2 3 _ rfl
      have c4 : wr.cell? ⟨b, off + i * 7 + 4, none⟩ = some (.int .i64 o.len) := hc2 4 _ rfl
      have c5 : wr.cell? ⟨b, off + i * 7 + 5, none⟩ = some (.slice o.da o.n o.dc) := hc2 5 _ rfl
      have c6 : wr.cell? ⟨b, off + i * 7 + 6, none⟩ = some (.bool o.sy) := hc2 6 _ rfl
      have HA : Hid (∀ U, Calls Try.prog 43 #[.agg #[.int .i64 o.k, .int .i64 o.fr, .int .i64 o.to_, .int .i64 o.off, .int .i64 o.len, .slice o.da o.n o.dc, .bool o.sy]] U fun e w' => e = .returned (.bool o.ans) ∧ Below U.heap.size U w') := fun U => answered_any o U
      have HSo : Hid (owOf l (i + 1) = if o.ans then owOf l i ++ [i] else owOf l i) := owOf_succ ho
      clear hc2 ho
      go_wp2_with fail
      refine (HA.out _).mono ?_
      rintro e W2 ⟨rfl, hb2⟩
      have hA : Below wr.heap.size wr (wr.alloc (.cells #[.int .i64 o.k, .int .i64 o.fr, .int .i64 o.to_, .int .i64 o.off, .int .i64 o.len, .slice o.da o.n o.dc, .bool o.sy] 50)) := (Below.refl _ wr).alloc (Nat.le_refl _) _
      have HB2 : Hid (Below wr.heap.size wr W2) := hA.trans (hb2.mono hA.size)
      have HR2 : Hid (W2.heap[wr.heap.size]? = some (.cells #[.int .i64 o.k, .int .i64 o.fr, .int .i64 o.to_, .int .i64 o.off, .int .i64 o.len, .slice o.da o.n o.dc, .bool o.sy] 50 (0, 0))) := (hb2.block _ (by rw [World.size_alloc]; exact Nat.lt_succ_self _)).trans (heap_new _ _)
      have HW2 : Hid (Below w.heap.size w W2) := HQ.out.2.trans (HB2.out.mono HQ.out.2.size)
      have HS2 : Hid (Sb W2 w.heap.size (w.heap.size + 2) (some ⟨b, off, none⟩) m oc (mask (owOf l i)) w.heap.size (ahOf l i) (.slice none 0 0) n [] (w.heap.size + 1)) := HQ.out.1.later HB2.out
      clear hA hb2 c0 c1 c2 c3 c4 c5 c6
      obtain ⟨b7, hb7⟩ : ∃ b7, wr.heap.size = b7 := ⟨_, rfl⟩
      rw [hb7] at HR2
      rw [hb7]
      clear hb7
      cases ha : o.ans with
      | false =>
        have HI0 : Hid (Sb W2 w.heap.size (w.heap.size + 2) (some ⟨b, off, none⟩) m oc (mask (owOf l (i + 1))) w.heap.size (ahOf l i) (.slice none 0 0) n [] (w.heap.size + 1) ∧ Below w.heap.size w W2 ∧ W2.heap[b7]? = some (.cells #[.int .i64 o.k, .int .i64 o.fr, .int .i64 o.to_, .int .i64 o.off, .int .i64 o.len, .slice o.da o.n o.dc, .bool o.sy] 50 (0, 0))) := by
          have h5 := HSo.out
          rw [ha, if_neg (by decide)] at h5
          show _ ∧ _
          rw [h5]
          exact ⟨HS2.out, HW2.out, HR2.out⟩
        clear HS2 HW2 HR2 HB2
        go_wp2_with fail
        go_loopw [37] (fun xv wr => ∃ (j : Nat), j ≤ m ∧ xv = .int .i64 (j : Int) ∧ Hid (Sb wr w.heap.size (w.heap.size + 2) (some ⟨b, off, none⟩) m oc (mask (owOf l (i + 1))) w.heap.size ((ahOf l i).set i (mask (befOf l o j))) (.slice none 0 0) n [] (w.heap.size + 1) ∧ Below w.heap.size w wr ∧ wr.heap[b7]? = some (.cells #[.int .i64 o.k, .int .i64 o.fr, .int .i64 o.to_, .int .i64 o.off, .int .i64 o.len, .slice o.da o.n o.dc, .bool o.sy] 50 (0, 0)))) (fun xv _ => m - (intOf xv).toNat)
        case atStart =>
          refine ⟨0, Nat.zero_le _, rfl, ?_⟩
          show _ ∧ _ ∧ _
          rw [show mask (befOf l o 0) = 0 by simp [befOf, mask], ahOf_set0 HIl.out]
          exact HI0.out
        case round =>
          obtain ⟨j, hj, rfl, HJ⟩ := hrel
          clear HI0
          by_cases hjm : j < m
          · have nn9 : decide ((j : Int) < (m : Int)) = true := decide_eq_true (by omega)
            have jj0 : (0 : Int) ≤ (j : Int) := by omega
            have jj9 : (j : Int) < (m : Int) := by omega
            have HJm : Hid (j < m) := hjm
            obtain ⟨o2, ho2⟩ : ∃ o2, l[j]? = some o2 := ⟨_, List.getElem?_eq_getElem (by rw [HM.out.1]; exact hjm)⟩
            obtain ⟨b2, off2, e2, hc3⟩ := ops_at (HO.out wr HJ.out.2.1) ho2
            cases e2
            have HSf : Hid (befOf l o (j + 1) = if o2.bef o then befOf l o j ++ [j] else befOf l o j) := befOf_succ ho2
            have HN2 : Hid (∀ U, Calls Try.prog 54 #[.agg #[.int .i64 o2.k, .int .i64 o2.fr, .int .i64 o2.to_, .int .i64 o2.off, .int .i64 o2.len, .slice o2.da o2.n o2.dc, .bool o2.sy], .agg #[.int .i64 o.k, .int .i64 o.fr, .int .i64 o.to_, .int .i64 o.off, .int .i64 o.len, .slice o.da o.n o.dc, .bool o.sy]] U fun e w' => e = .returned (.bool (o2.bef o)) ∧ Below U.heap.size U w') := fun U => before_any o2 o U
            have c0 : wr.cell? ⟨b, off + j * 7, none⟩ = some (.int .i64 o2.k) := hc3 0 _ rfl
            have c1 : wr.cell? ⟨b, off + j * 7 + 1, none⟩ = some (.int .i64 o2.fr) := hc3 1 _ rfl
            have c2 : wr.cell? ⟨b, off + j * 7 + 2, none⟩ = some (.int .i64 o2.to_) := hc3 2 _ rfl
            have c3 : wr.cell? ⟨b, off + j * 7 + 3, none⟩ = some (.int .i64 o2.off) := hc3 3 _ rfl
            have c4 : wr.cell? ⟨b, off + j * 7 + 4, none⟩ = some (.int .i64 o2.len) := hc3 4 _ rfl
            have c5 : wr.cell? ⟨b, off + j * 7 + 5, none⟩ = some (.slice o2.da o2.n o2.dc) := hc3 5 _ rfl
            have c6 : wr.cell? ⟨b, off + j * 7 + 6, none⟩ = some (.bool o2.sy) := hc3 6 _ rfl
            have hAq : Below wr.heap.size wr (wr.alloc (.cells #[.int .i64 o2.k, .int .i64 o2.fr, .int .i64 o2.to_, .int .i64 o2.off, .int .i64 o2.len, .slice o2.da o2.n o2.dc, .bool o2.sy] 50)) := (Below.refl _ wr).alloc (Nat.le_refl _) _
            have HAq : Hid (Below wr.heap.size wr (wr.alloc (.cells #[.int .i64 o2.k, .int .i64 o2.fr, .int .i64 o2.to_, .int .i64 o2.off, .int .i64 o2.len, .slice o2.da o2.n o2.dc, .bool o2.sy] 50))) := hAq
            have hwq : (wr.alloc (.cells #[.int .i64 o2.k, .int .i64 o2.fr, .int .i64 o2.to_, .int .i64 o2.off, .int .i64 o2.len, .slice o2.da o2.n o2.dc, .bool o2.sy] 50)).heap[b7]? = some (.cells #[.int .i64 o.k, .int .i64 o.fr, .int .i64 o.to_, .int .i64 o.off, .int .i64 o.len, .slice o.da o.n o.dc, .bool o.sy] 50 (0, 0)) := (hAq.block _ (block_lt HJ.out.2.2)).trans HJ.out.2.2
            have d0 : (wr.alloc (.cells #[.int .i64 o2.k, .int .i64 o2.fr, .int .i64 o2.to_, .int .i64 o2.off, .int .i64 o2.len, .slice o2.da o2.n o2.dc, .bool o2.sy] 50)).cell? ⟨b7, 0, none⟩ = some (.int .i64 o.k) := blk_at hwq 0
            have d1 : (wr.alloc (.cells #[.int .i64 o2.k, .int .i64 o2.fr, .int .i64 o2.to_, .int .i64 o2.off, .int .i64 o2.len, .slice o2.da o2.n o2.dc, .bool o2.sy] 50)).cell? ⟨b7, 1, none⟩ = some (.int .i64 o.fr) := blk_at hwq 1
            have d2 : (wr.alloc (.cells #[.int .i64 o2.k, .int .i64 o2.fr, .int .i64 o2.to_, .int .i64 o2.off, .int .i64 o2.len, .slice o2.da o2.n o2.dc, .bool o2.sy] 50)).cell? ⟨b7, 2, none⟩ = some (.int .i64 o.to_) := blk_at hwq 2
            have d3 : (wr.alloc (.cells #[.int .i64 o2.k, .int .i64 o2.fr, .int .i64 o2.to_, .int .i64 o2.off, .int .i64 o2.len, .slice o2.da o2.n o2.dc, .bool o2.sy] 50)).cell? ⟨b7, 3, none⟩ = some (.int .i64 o.off) := blk_at hwq 3
            have d4 : (wr.alloc (.cells #[.int .i64 o2.k, .int .i64 o2.fr, .int .i64 o2.to_, .int .i64 o2.off, .int .i64 o2.len, .slice o2.da o2.n o2.dc, .bool o2.sy] 50)).cell? ⟨b7, 4, none⟩ = some (.int .i64 o.len) := blk_at hwq 4
            have d5 : (wr.alloc (.cells #[.int .i64 o2.k, .int .i64 o2.fr, .int .i64 o2.to_, .int .i64 o2.off, .int .i64 o2.len, .slice o2.da o2.n o2.dc, .bool o2.sy] 50)).cell? ⟨b7, 5, none⟩ = some (.slice o.da o.n o.dc) := blk_at hwq 5
            have d6 : (wr.alloc (.cells #[.int .i64 o2.k, .int .i64 o2.fr, .int .i64 o2.to_, .int .i64 o2.off, .int .i64 o2.len, .slice o2.da o2.n o2.dc, .bool o2.sy] 50)).cell? ⟨b7, 6, none⟩ = some (.bool o.sy) := blk_at hwq 6
            clear hc3 ho2 hwq hAq
            go_wp2_with fail
            refine (HN2.out _).mono ?_
            rintro e3 W3 ⟨rfl, hb3⟩
            have HB3 : Hid (Below wr.heap.size wr W3) := HAq.out.trans (hb3.mono HAq.out.size)
            clear hb3 c0 c1 c2 c3 c4 c5 c6 d0 d1 d2 d3 d4 d5 d6
            have HR3 : Hid (W3.heap[b7]? = some (.cells #[.int .i64 o.k, .int .i64 o.fr, .int .i64 o.to_, .int .i64 o.off, .int .i64 o.len, .slice o.da o.n o.dc, .bool o.sy] 50 (0, 0))) := (HB3.out.block _ (block_lt HJ.out.2.2)).trans HJ.out.2.2
            have HS3 : Hid (Sb W3 w.heap.size (w.heap.size + 2) (some ⟨b, off, none⟩) m oc (mask (owOf l (i + 1))) w.heap.size ((ahOf l i).set i (mask (befOf l o j))) (.slice none 0 0) n [] (w.heap.size + 1)) := HJ.out.1.later HB3.out
            have HW3 : Hid (Below w.heap.size w W3) := HJ.out.2.1.trans (HB3.out.mono HJ.out.2.1.size)
            cases hbf : o2.bef o with
            | false =>
              have HSg : Hid (befOf l o (j + 1) = befOf l o j) := by have := HSf.out; rw [hbf] at this; exact this
              go_wp2
              go_roundw
              case rel =>
                refine ⟨j + 1, HJm.out, by go_num, ?_⟩
                show _ ∧ _ ∧ _
                rw [HSg.out]
                exact ⟨HS3.out, HW3.out, HR3.out⟩
              case measure => simp [intOf]; omega
            | true =>
              have HSg : Hid (befOf l o (j + 1) = befOf l o j ++ [j]) := by have := HSf.out; rw [hbf] at this; exact this
              obtain ⟨E0, hE0⟩ : ∃ E0, mask (befOf l o j) = E0 := ⟨_, rfl⟩
              obtain ⟨X2, hX2⟩ : ∃ X2, 2 ^ j = X2 := ⟨_, rfl⟩
              obtain ⟨Y2, hY2⟩ : ∃ Y2, E0 ||| X2 = Y2 := ⟨_, rfl⟩
              have hor : bits BinOp.or IntKind.u16 (E0 : Int) (X2 : Int) = (Y2 : Int) := by
                rw [u16_or_nat _ _ (by rw [← hE0]; exact befOf_mask hj HM.out.2) (by rw [← hX2]; exact Nat.lt_of_lt_of_le (Nat.pow_lt_pow_right (by decide) (show j < 16 by have := HM.out.2; omega)) (by decide)), hY2]
              have HO2 : Hid (∀ U, Calls Try.prog 53 #[.int .i64 (j : Int)] U fun e w' => e = .returned (.int .u16 (X2 : Int)) ∧ w' = U) := fun U => by rw [← hX2]; exact only_any j (by have := HM.out.2; omega) U
              have HEe : Hid (mask (befOf l o (j + 1)) = Y2) := by
                show _ = _
                rw [HSg.out, mask_snoc, hE0, hX2, hY2]
              obtain ⟨a3, a4⟩ := HS3.out.ahc (k := i) (List.getElem?_set_self (by rw [ahOf_len]; exact HIl.out))
              rw [hE0] at a3
              have HS4 : Hid (Sb (W3.setCell ⟨w.heap.size, i, none⟩ (.int .u16 (Y2 : Int))) w.heap.size (w.heap.size + 2) (some ⟨b, off, none⟩) m oc (mask (owOf l (i + 1))) w.heap.size ((ahOf l i).set i Y2) (.slice none 0 0) n [] (w.heap.size + 1)) := by
                have := HS3.out.setAh (k := i) (by rw [← HM.out.1]; exact HIl.out) Y2
                rw [List.set_set] at this
                exact this
              have H11 : Hid (W3.cell? ⟨(w.heap.size + 2), 2, none⟩ = some (.slice (some ⟨w.heap.size, 0, none⟩) m m) ∧ (W3.setCell ⟨w.heap.size, i, none⟩ (.int .u16 (Y2 : Int))).cell? ⟨(w.heap.size + 2), 2, none⟩ = some (.slice (some ⟨w.heap.size, 0, none⟩) m m)) := ⟨HS3.out.q2, HS4.out.q2⟩
              have HW4 : Hid (Below w.heap.size w (W3.setCell ⟨w.heap.size, i, none⟩ (.int .u16 (Y2 : Int))).drew) := (HW3.out.setCell (p := ⟨w.heap.size, i, none⟩) HS3.out.ghb.1 _).trans ⟨rfl, rfl, rfl, Nat.le_refl _, fun _ _ => rfl⟩
              have HR4 : Hid ((W3.setCell ⟨w.heap.size, i, none⟩ (.int .u16 (Y2 : Int))).drew.heap[b7]? = some (.cells #[.int .i64 o.k, .int .i64 o.fr, .int .i64 o.to_, .int .i64 o.off, .int .i64 o.len, .slice o.da o.n o.dc, .bool o.sy] 50 (0, 0))) := by
                show (W3.setCell ⟨w.heap.size, i, none⟩ (.int .u16 (Y2 : Int))).heap[b7]? = _
                rw [Below.heap_setCell _ _ _ _ (fun e0 => by
                  obtain ⟨_, cu, hcu⟩ := HS3.out.ghb
                  have e1 : b7 = w.heap.size := e0
                  have h5 := HR3.out
                  rw [e1, hcu] at h5; cases h5)]
                exact HR3.out
              have HS5 : Hid (Sb (W3.setCell ⟨w.heap.size, i, none⟩ (.int .u16 (Y2 : Int))).drew w.heap.size (w.heap.size + 2) (some ⟨b, off, none⟩) m oc (mask (owOf l (i + 1))) w.heap.size ((ahOf l i).set i Y2) (.slice none 0 0) n [] (w.heap.size + 1)) := HS4.out.later ⟨rfl, rfl, rfl, Nat.le_refl _, fun _ _ => rfl⟩
              have ii0 : (0 : Int) ≤ (i : Int) := by omega
              have ii9 : (i : Int) < (m : Int) := HIi.out
              clear hE0 hX2 hY2
              go_wp2_with fail
              refine wp_region_held_drew (S := (fun w' => w'.cell? ⟨(w.heap.size + 2), 2, none⟩ = some (.slice (some ⟨w.heap.size, 0, none⟩) m m))) (by kernel_rfl) ?_ (fun hHeld => ?_)
              · exact H11.out.1
              refine wpAnyH_take (i := 0) (oi := { dst := some 45, op := Op.move (Operand.tmp 5), type := 68, pos := _, after := #[], guard := none }) (v := ?_) rfl (by kernel_rfl) (by kernel_rfl) (by kernel_rfl) (fun _ _ _ h => h) (Or.inl ⟨by rfl, ?_⟩) (by assumption) ?_
              rotate_left
              · (intro w hSw; (try dsimp only at hSw); go_simp) <;> with_reducible rfl
              try simp only [Act.put, List.setIfInBounds_toArray, List.set_cons_zero, List.set_cons_succ]
              refine wpAnyH_take (i := 1) (oi := { dst := some 46, op := Op.nilCheck (Operand.tmp 45), type := 0, pos := _, after := _, guard := none }) (v := ?_) rfl (by kernel_rfl) (by kernel_rfl) (by kernel_rfl) (fun _ _ _ h => h) (Or.inl ⟨by rfl, ?_⟩) (by assumption) ?_
              rotate_left
              · (intro w hSw; (try dsimp only at hSw); go_simp) <;> with_reducible rfl
              try simp only [Act.put, List.setIfInBounds_toArray, List.set_cons_zero, List.set_cons_succ]
              refine wpAnyH_take (i := 2) (oi := { dst := some 47, op := Op.fieldAddr 94 (Operand.tmp 46) 2, type := 0, pos := _, after := _, guard := none }) (v := ?_) rfl (by kernel_rfl) (by kernel_rfl) (by kernel_rfl) (fun _ _ _ h => h) (Or.inl ⟨by rfl, ?_⟩) (by assumption) ?_
              rotate_left
              · (intro w hSw; (try dsimp only at hSw); go_simp) <;> with_reducible rfl
              try simp only [Act.put, List.setIfInBounds_toArray, List.set_cons_zero, List.set_cons_succ]
              refine wpAnyH_take (i := 3) (oi := { dst := some 48, op := Op.load 88 (Operand.tmp 47), type := 88, pos := _, after := _, guard := none }) (v := ?_) rfl (by kernel_rfl) (by kernel_rfl) (by kernel_rfl) (fun _ _ _ h => h) (Or.inl ⟨by rfl, ?_⟩) (by assumption) ?_
              rotate_left
              · (intro w hSw; (try dsimp only at hSw); go_simp) <;> with_reducible rfl
              try simp only [Act.put, List.setIfInBounds_toArray, List.set_cons_zero, List.set_cons_succ]
              refine wpAnyH_take (i := 4) (oi := { dst := some 49, op := Op.move (Operand.tmp 6), type := 3, pos := _, after := #[], guard := none }) (v := ?_) rfl (by kernel_rfl) (by kernel_rfl) (by kernel_rfl) (fun _ _ _ h => h) (Or.inl ⟨by rfl, ?_⟩) (by assumption) ?_
              rotate_left
              · (intro w hSw; (try dsimp only at hSw); go_simp) <;> with_reducible rfl
              try simp only [Act.put, List.setIfInBounds_toArray, List.set_cons_zero, List.set_cons_succ]
              refine wpAnyH_take (i := 5) (oi := { dst := some 50, op := Op.indexAddr 88 (Operand.tmp 48) (Operand.tmp 49), type := 0, pos := _, after := _, guard := none }) (v := ?_) rfl (by kernel_rfl) (by kernel_rfl) (by kernel_rfl) (fun _ _ _ h => h) (Or.inl ⟨by rfl, ?_⟩) (by assumption) ?_
              rotate_left
              · (intro w hSw; (try dsimp only at hSw); go_simp) <;> with_reducible rfl
              try simp only [Act.put, List.setIfInBounds_toArray, List.set_cons_zero, List.set_cons_succ]
              refine wpAnyH_take (i := 7) (oi := { dst := some 52, op := Op.move (Operand.tmp 8), type := 3, pos := _, after := #[], guard := none }) (v := ?_) rfl (by kernel_rfl) (by kernel_rfl) (by kernel_rfl) (fun _ _ _ h => h) (Or.inl ⟨by rfl, ?_⟩) (by assumption) ?_
              rotate_left
              · (intro w hSw; (try dsimp only at hSw); go_simp) <;> with_reducible rfl
              try simp only [Act.put, List.setIfInBounds_toArray, List.set_cons_zero, List.set_cons_succ]
              refine wpAnyH_ready (rs := [6, 8]) (by kernel_rfl) (by simp) ?_
              refine AllReadyH.cons (o := { dst := some 51, op := Op.load 91 (Operand.tmp 50), type := 91, pos := _, after := _, guard := none }) rfl (fun K hK => ?_) (AllReadyH.cons (o := { dst := some 53, op := Op.call { callee := Callee.value (Operand.func 53), args := #[Operand.tmp 52], argTypes := #[3] }, type := 91, pos := _, after := _, guard := none }) rfl (fun K hK => ?_) AllReadyH.nil)
              · go_simp
                skip
                try go_simp
                clear hHeld
                refine hK.out _ _ ?_ (fun hHeld => ?_)
                · exact H11.out.1
                clear hK K
                try simp only [Act.put, List.setIfInBounds_toArray, List.set_cons_zero, List.set_cons_succ]
                refine wpAnyH_ready (rs := [8]) (by kernel_rfl) (by simp) ?_
                refine AllReadyH.cons (o := { dst := some 53, op := Op.call { callee := Callee.value (Operand.func 53), args := #[Operand.tmp 52], argTypes := #[3] }, type := 91, pos := _, after := _, guard := none }) rfl (fun K hK => ?_) AllReadyH.nil
                go_simp
                go_at_call 53
                refine (HO2.out _).mono ?_
                rintro ex w9 ⟨rfl, rfl⟩
                try go_simp
                clear hHeld
                refine hK.out _ _ ?_ (fun hHeld => ?_)
                · exact H11.out.1
                clear hK K
                try simp only [Act.put, List.setIfInBounds_toArray, List.set_cons_zero, List.set_cons_succ]
                refine wpAnyH_take (i := 9) (oi := { dst := some 54, op := Op.binOp BinOp.or 91 (Operand.tmp 51) (Operand.tmp 53) 91, type := 91, pos := _, after := _, guard := none }) (v := ?_) rfl (by kernel_rfl) (by kernel_rfl) (by kernel_rfl) (fun _ _ _ h => h) (Or.inl ⟨by rfl, ?_⟩) (by assumption) ?_
                rotate_left
                · (intro w hSw; (try dsimp only at hSw); go_simp) <;> with_reducible rfl
                try simp only [Act.put, List.setIfInBounds_toArray, List.set_cons_zero, List.set_cons_succ]
                refine wpAnyH_take (i := 10) (oi := { dst := some 55, op := Op.indexAddr 88 (Operand.tmp 48) (Operand.tmp 49), type := 0, pos := _, after := _, guard := none }) (v := ?_) rfl (by kernel_rfl) (by kernel_rfl) (by kernel_rfl) (fun _ _ _ h => h) (Or.inl ⟨by rfl, ?_⟩) (by assumption) ?_
                rotate_left
                · (intro w hSw; (try dsimp only at hSw); go_simp) <;> with_reducible rfl
                try simp only [Act.put, List.setIfInBounds_toArray, List.set_cons_zero, List.set_cons_succ]
                refine wpAnyH_ready (rs := [11]) (by kernel_rfl) (by simp) ?_
                refine AllReadyH.cons (o := { dst := none, op := Op.store 91 (Operand.tmp 55) (Operand.tmp 54), type := 0, pos := _, after := _, guard := none }) rfl (fun K hK => ?_) AllReadyH.nil
                go_simp
                skip
                try go_simp
                clear hHeld
                refine hK.out _ _ ?_ (fun hHeld => ?_)
                · exact H11.out.2
                clear hK K
                try simp only [Act.put, List.setIfInBounds_toArray, List.set_cons_zero, List.set_cons_succ]
                refine wpAnyH_done (by kernel_rfl) ?_ _
                clear hHeld hor a3 a4
                go_wp2
                go_roundw
                case rel =>
                  refine ⟨j + 1, HJm.out, by go_num, ?_⟩
                  show _ ∧ _ ∧ _
                  rw [HEe.out]
                  exact ⟨HS5.out, HW4.out, HR4.out⟩
                case measure => simp [intOf]; omega
              · go_simp
                go_at_call 53
                refine (HO2.out _).mono ?_
                rintro ex w9 ⟨rfl, rfl⟩
                try go_simp
                clear hHeld
                refine hK.out _ _ ?_ (fun hHeld => ?_)
                · exact H11.out.1
                clear hK K
                try simp only [Act.put, List.setIfInBounds_toArray, List.set_cons_zero, List.set_cons_succ]
                refine wpAnyH_ready (rs := [6]) (by kernel_rfl) (by simp) ?_
                refine AllReadyH.cons (o := { dst := some 51, op := Op.load 91 (Operand.tmp 50), type := 91, pos := _, after := _, guard := none }) rfl (fun K hK => ?_) AllReadyH.nil
                go_simp
                skip
                try go_simp
                clear hHeld
                refine hK.out _ _ ?_ (fun hHeld => ?_)
                · exact H11.out.1
                clear hK K
                try simp only [Act.put, List.setIfInBounds_toArray, List.set_cons_zero, List.set_cons_succ]
                refine wpAnyH_take (i := 9) (oi := { dst := some 54, op := Op.binOp BinOp.or 91 (Operand.tmp 51) (Operand.tmp 53) 91, type := 91, pos := _, after := _, guard := none }) (v := ?_) rfl (by kernel_rfl) (by kernel_rfl) (by kernel_rfl) (fun _ _ _ h => h) (Or.inl ⟨by rfl, ?_⟩) (by assumption) ?_
                rotate_left
                · (intro w hSw; (try dsimp only at hSw); go_simp) <;> with_reducible rfl
                try simp only [Act.put, List.setIfInBounds_toArray, List.set_cons_zero, List.set_cons_succ]
                refine wpAnyH_take (i := 10) (oi := { dst := some 55, op := Op.indexAddr 88 (Operand.tmp 48) (Operand.tmp 49), type := 0, pos := _, after := _, guard := none }) (v := ?_) rfl (by kernel_rfl) (by kernel_rfl) (by kernel_rfl) (fun _ _ _ h => h) (Or.inl ⟨by rfl, ?_⟩) (by assumption) ?_
                rotate_left
                · (intro w hSw; (try dsimp only at hSw); go_simp) <;> with_reducible rfl
                try simp only [Act.put, List.setIfInBounds_toArray, List.set_cons_zero, List.set_cons_succ]
                refine wpAnyH_ready (rs := [11]) (by kernel_rfl) (by simp) ?_
                refine AllReadyH.cons (o := { dst := none, op := Op.store 91 (Operand.tmp 55) (Operand.tmp 54), type := 0, pos := _, after := _, guard := none }) rfl (fun K hK => ?_) AllReadyH.nil
                go_simp
                skip
                try go_simp
                clear hHeld
                refine hK.out _ _ ?_ (fun hHeld => ?_)
                · exact H11.out.2
                clear hK K
                try simp only [Act.put, List.setIfInBounds_toArray, List.set_cons_zero, List.set_cons_succ]
                refine wpAnyH_done (by kernel_rfl) ?_ _
                clear hHeld hor a3 a4
                go_wp2
                go_roundw
                case rel =>
                  refine ⟨j + 1, HJm.out, by go_num, ?_⟩
                  show _ ∧ _ ∧ _
                  rw [HEe.out]
                  exact ⟨HS5.out, HW4.out, HR4.out⟩
                case measure => simp [intOf]; omega

          · have nn9 : decide ((j : Int) < (m : Int)) = false := decide_eq_false (by omega)
            have HJe : Hid (j = m) := Nat.le_antisymm hj (Nat.le_of_not_lt hjm)
            go_wp2
            go_roundw
            case rel =>
              refine ⟨i + 1, HIm.out, by go_num, ?_⟩
              show _ ∧ _
              have h5 := HJ.out.1
              rw [HJe.out, ← HM.out.1, ahOf_succ HOo.out, HM.out.1] at h5
              exact ⟨h5, HJ.out.2.1⟩
            case measure => simp [intOf]; omega

      | true =>
        obtain ⟨A0, hA0⟩ : ∃ A0, mask (owOf l i) = A0 := ⟨_, rfl⟩
        obtain ⟨X, hX⟩ : ∃ X, 2 ^ i = X := ⟨_, rfl⟩
        obtain ⟨Y, hY⟩ : ∃ Y, A0 ||| X = Y := ⟨_, rfl⟩
        have hor : bits BinOp.or IntKind.u16 (A0 : Int) (X : Int) = (Y : Int) := by
          rw [u16_or_nat _ _ (by rw [← hA0]; exact owOf_mask hi HM.out.2) (by rw [← hX]; exact Nat.lt_of_lt_of_le (Nat.pow_lt_pow_right (by decide) (show i < 16 by have := HM.out.2; omega)) (by decide)), hY]
        have HO2 : Hid (∀ U, Calls Try.prog 53 #[.int .i64 (i : Int)] U fun e w' => e = .returned (.int .u16 (X : Int)) ∧ w' = U) := fun U => by rw [← hX]; exact only_any i (by have := HM.out.2; omega) U
        have HYe : Hid (mask (owOf l (i + 1)) = Y) := by
          have h5 := HSo.out
          rw [ha, if_pos rfl] at h5
          show _ = _
          rw [h5, mask_snoc, hA0, hX, hY]
        have q1 : W2.cell? ⟨(w.heap.size + 2), 1, none⟩ = some (.int .u16 (A0 : Int)) := by rw [← hA0]; exact HS2.out.q1
        have q1f : W2.frozen? ⟨(w.heap.size + 2), 1, none⟩ = false := HS2.out.fz 1
        have HI0 : Hid (Sb (W2.setCell ⟨(w.heap.size + 2), 1, none⟩ (.int .u16 (Y : Int))).drew w.heap.size (w.heap.size + 2) (some ⟨b, off, none⟩) m oc (mask (owOf l (i + 1))) w.heap.size (ahOf l i) (.slice none 0 0) n [] (w.heap.size + 1) ∧ Below w.heap.size w (W2.setCell ⟨(w.heap.size + 2), 1, none⟩ (.int .u16 (Y : Int))).drew ∧ (W2.setCell ⟨(w.heap.size + 2), 1, none⟩ (.int .u16 (Y : Int))).drew.heap[b7]? = some (.cells #[.int .i64 o.k, .int .i64 o.fr, .int .i64 o.to_, .int .i64 o.off, .int .i64 o.len, .slice o.da o.n o.dc, .bool o.sy] 50 (0, 0))) := by
          show _ ∧ _ ∧ _
          rw [HYe.out]
          refine ⟨(HS2.out.setA Y).later ⟨rfl, rfl, rfl, Nat.le_refl _, fun _ _ => rfl⟩, (HW2.out.setCell (p := ⟨(w.heap.size + 2), 1, none⟩) HS2.out.hQ _).trans ⟨rfl, rfl, rfl, Nat.le_refl _, fun _ _ => rfl⟩, ?_⟩
          show (W2.setCell ⟨(w.heap.size + 2), 1, none⟩ (.int .u16 (Y : Int))).heap[b7]? = _
          rw [Below.heap_setCell _ _ _ _ (fun e0 => by
            have e1 : b7 = (w.heap.size + 2) := e0
            have h5 := HR2.out
            rw [e1, HS2.out.blk] at h5; cases h5)]
          exact HR2.out
        clear HS2 HW2 HR2 HB2 hA0 hX hY ha
        go_wp2_with fail
        refine wp_region_held_drew (S := (fun _ => True)) (by kernel_rfl) ?_ (fun hHeld => ?_)
        · exact trivial
        refine wpAnyH_take (i := 0) (oi := { dst := some 26, op := Op.move (Operand.tmp 5), type := 68, pos := _, after := #[], guard := none }) (v := ?_) rfl (by kernel_rfl) (by kernel_rfl) (by kernel_rfl) (fun _ _ _ h => h) (Or.inl ⟨by rfl, ?_⟩) (by assumption) ?_
        rotate_left
        · (intro w hSw; (try dsimp only at hSw); go_simp) <;> with_reducible rfl
        try simp only [Act.put, List.setIfInBounds_toArray, List.set_cons_zero, List.set_cons_succ]
        refine wpAnyH_take (i := 1) (oi := { dst := some 27, op := Op.nilCheck (Operand.tmp 26), type := 0, pos := _, after := _, guard := none }) (v := ?_) rfl (by kernel_rfl) (by kernel_rfl) (by kernel_rfl) (fun _ _ _ h => h) (Or.inl ⟨by rfl, ?_⟩) (by assumption) ?_
        rotate_left
        · (intro w hSw; (try dsimp only at hSw); go_simp) <;> with_reducible rfl
        try simp only [Act.put, List.setIfInBounds_toArray, List.set_cons_zero, List.set_cons_succ]
        refine wpAnyH_take (i := 2) (oi := { dst := some 28, op := Op.fieldAddr 94 (Operand.tmp 27) 1, type := 0, pos := _, after := _, guard := none }) (v := ?_) rfl (by kernel_rfl) (by kernel_rfl) (by kernel_rfl) (fun _ _ _ h => h) (Or.inl ⟨by rfl, ?_⟩) (by assumption) ?_
        rotate_left
        · (intro w hSw; (try dsimp only at hSw); go_simp) <;> with_reducible rfl
        try simp only [Act.put, List.setIfInBounds_toArray, List.set_cons_zero, List.set_cons_succ]
        refine wpAnyH_take (i := 4) (oi := { dst := some 30, op := Op.move (Operand.tmp 6), type := 3, pos := _, after := #[], guard := none }) (v := ?_) rfl (by kernel_rfl) (by kernel_rfl) (by kernel_rfl) (fun _ _ _ h => h) (Or.inl ⟨by rfl, ?_⟩) (by assumption) ?_
        rotate_left
        · (intro w hSw; (try dsimp only at hSw); go_simp) <;> with_reducible rfl
        try simp only [Act.put, List.setIfInBounds_toArray, List.set_cons_zero, List.set_cons_succ]
        refine wpAnyH_ready (rs := [3, 5]) (by kernel_rfl) (by simp) ?_
        refine AllReadyH.cons (o := { dst := some 29, op := Op.load 91 (Operand.tmp 28), type := 91, pos := _, after := _, guard := none }) rfl (fun K hK => ?_) (AllReadyH.cons (o := { dst := some 31, op := Op.call { callee := Callee.value (Operand.func 53), args := #[Operand.tmp 30], argTypes := #[3] }, type := 91, pos := _, after := _, guard := none }) rfl (fun K hK => ?_) AllReadyH.nil)
        · go_simp
          skip
          try go_simp
          clear hHeld
          refine hK.out _ _ ?_ (fun hHeld => ?_)
          · exact trivial
          clear hK K
          try simp only [Act.put, List.setIfInBounds_toArray, List.set_cons_zero, List.set_cons_succ]
          refine wpAnyH_ready (rs := [5]) (by kernel_rfl) (by simp) ?_
          refine AllReadyH.cons (o := { dst := some 31, op := Op.call { callee := Callee.value (Operand.func 53), args := #[Operand.tmp 30], argTypes := #[3] }, type := 91, pos := _, after := _, guard := none }) rfl (fun K hK => ?_) AllReadyH.nil
          go_simp
          go_at_call 53
          refine (HO2.out _).mono ?_
          rintro ex w9 ⟨rfl, rfl⟩
          try go_simp
          clear hHeld
          refine hK.out _ _ ?_ (fun hHeld => ?_)
          · exact trivial
          clear hK K
          try simp only [Act.put, List.setIfInBounds_toArray, List.set_cons_zero, List.set_cons_succ]
          refine wpAnyH_take (i := 6) (oi := { dst := some 32, op := Op.binOp BinOp.or 91 (Operand.tmp 29) (Operand.tmp 31) 91, type := 91, pos := _, after := _, guard := none }) (v := ?_) rfl (by kernel_rfl) (by kernel_rfl) (by kernel_rfl) (fun _ _ _ h => h) (Or.inl ⟨by rfl, ?_⟩) (by assumption) ?_
          rotate_left
          · (intro w hSw; (try dsimp only at hSw); go_simp) <;> with_reducible rfl
          try simp only [Act.put, List.setIfInBounds_toArray, List.set_cons_zero, List.set_cons_succ]
          refine wpAnyH_take (i := 7) (oi := { dst := some 33, op := Op.nilCheck (Operand.tmp 26), type := 0, pos := _, after := _, guard := none }) (v := ?_) rfl (by kernel_rfl) (by kernel_rfl) (by kernel_rfl) (fun _ _ _ h => h) (Or.inl ⟨by rfl, ?_⟩) (by assumption) ?_
          rotate_left
          · (intro w hSw; (try dsimp only at hSw); go_simp) <;> with_reducible rfl
          try simp only [Act.put, List.setIfInBounds_toArray, List.set_cons_zero, List.set_cons_succ]
          refine wpAnyH_take (i := 8) (oi := { dst := some 34, op := Op.fieldAddr 94 (Operand.tmp 33) 1, type := 0, pos := _, after := _, guard := none }) (v := ?_) rfl (by kernel_rfl) (by kernel_rfl) (by kernel_rfl) (fun _ _ _ h => h) (Or.inl ⟨by rfl, ?_⟩) (by assumption) ?_
          rotate_left
          · (intro w hSw; (try dsimp only at hSw); go_simp) <;> with_reducible rfl
          try simp only [Act.put, List.setIfInBounds_toArray, List.set_cons_zero, List.set_cons_succ]
          refine wpAnyH_ready (rs := [9]) (by kernel_rfl) (by simp) ?_
          refine AllReadyH.cons (o := { dst := none, op := Op.store 91 (Operand.tmp 34) (Operand.tmp 32), type := 0, pos := _, after := _, guard := none }) rfl (fun K hK => ?_) AllReadyH.nil
          go_simp
          skip
          try go_simp
          clear hHeld
          refine hK.out _ _ ?_ (fun hHeld => ?_)
          · exact trivial
          clear hK K
          try simp only [Act.put, List.setIfInBounds_toArray, List.set_cons_zero, List.set_cons_succ]
          refine wpAnyH_done (by kernel_rfl) ?_ _
          clear hHeld hor q1 q1f
          go_wp2_with fail

          go_loopw [37] (fun xv wr => ∃ (j : Nat), j ≤ m ∧ xv = .int .i64 (j : Int) ∧ Hid (Sb wr w.heap.size (w.heap.size + 2) (some ⟨b, off, none⟩) m oc (mask (owOf l (i + 1))) w.heap.size ((ahOf l i).set i (mask (befOf l o j))) (.slice none 0 0) n [] (w.heap.size + 1) ∧ Below w.heap.size w wr ∧ wr.heap[b7]? = some (.cells #[.int .i64 o.k, .int .i64 o.fr, .int .i64 o.to_, .int .i64 o.off, .int .i64 o.len, .slice o.da o.n o.dc, .bool o.sy] 50 (0, 0)))) (fun xv _ => m - (intOf xv).toNat)
          case atStart =>
            refine ⟨0, Nat.zero_le _, rfl, ?_⟩
            show _ ∧ _ ∧ _
            rw [show mask (befOf l o 0) = 0 by simp [befOf, mask], ahOf_set0 HIl.out]
            exact HI0.out
          case round =>
            obtain ⟨j, hj, rfl, HJ⟩ := hrel
            clear HI0
            by_cases hjm : j < m
            · have nn9 : decide ((j : Int) < (m : Int)) = true := decide_eq_true (by omega)
              have jj0 : (0 : Int) ≤ (j : Int) := by omega
              have jj9 : (j : Int) < (m : Int) := by omega
              have HJm : Hid (j < m) := hjm
              obtain ⟨o2, ho2⟩ : ∃ o2, l[j]? = some o2 := ⟨_, List.getElem?_eq_getElem (by rw [HM.out.1]; exact hjm)⟩
              obtain ⟨b2, off2, e2, hc3⟩ := ops_at (HO.out wr HJ.out.2.1) ho2
              cases e2
              have HSf : Hid (befOf l o (j + 1) = if o2.bef o then befOf l o j ++ [j] else befOf l o j) := befOf_succ ho2
              have HN2 : Hid (∀ U, Calls Try.prog 54 #[.agg #[.int .i64 o2.k, .int .i64 o2.fr, .int .i64 o2.to_, .int .i64 o2.off, .int .i64 o2.len, .slice o2.da o2.n o2.dc, .bool o2.sy], .agg #[.int .i64 o.k, .int .i64 o.fr, .int .i64 o.to_, .int .i64 o.off, .int .i64 o.len, .slice o.da o.n o.dc, .bool o.sy]] U fun e w' => e = .returned (.bool (o2.bef o)) ∧ Below U.heap.size U w') := fun U => before_any o2 o U
              have c0 : wr.cell? ⟨b, off + j * 7, none⟩ = some (.int .i64 o2.k) := hc3 0 _ rfl
              have c1 : wr.cell? ⟨b, off + j * 7 + 1, none⟩ = some (.int .i64 o2.fr) := hc3 1 _ rfl
              have c2 : wr.cell? ⟨b, off + j * 7 + 2, none⟩ = some (.int .i64 o2.to_) := hc3 2 _ rfl
              have c3 : wr.cell? ⟨b, off + j * 7 + 3, none⟩ = some (.int .i64 o2.off) := hc3 3 _ rfl
              have c4 : wr.cell? ⟨b, off + j * 7 + 4, none⟩ = some (.int .i64 o2.len) := hc3 4 _ rfl
              have c5 : wr.cell? ⟨b, off + j * 7 + 5, none⟩ = some (.slice o2.da o2.n o2.dc) := hc3 5 _ rfl
              have c6 : wr.cell? ⟨b, off + j * 7 + 6, none⟩ = some (.bool o2.sy) := hc3 6 _ rfl
              have hAq : Below wr.heap.size wr (wr.alloc (.cells #[.int .i64 o2.k, .int .i64 o2.fr, .int .i64 o2.to_, .int .i64 o2.off, .int .i64 o2.len, .slice o2.da o2.n o2.dc, .bool o2.sy] 50)) := (Below.refl _ wr).alloc (Nat.le_refl _) _
              have HAq : Hid (Below wr.heap.size wr (wr.alloc (.cells #[.int .i64 o2.k, .int .i64 o2.fr, .int .i64 o2.to_, .int .i64 o2.off, .int .i64 o2.len, .slice o2.da o2.n o2.dc, .bool o2.sy] 50))) := hAq
              have hwq : (wr.alloc (.cells #[.int .i64 o2.k, .int .i64 o2.fr, .int .i64 o2.to_, .int .i64 o2.off, .int .i64 o2.len, .slice o2.da o2.n o2.dc, .bool o2.sy] 50)).heap[b7]? = some (.cells #[.int .i64 o.k, .int .i64 o.fr, .int .i64 o.to_, .int .i64 o.off, .int .i64 o.len, .slice o.da o.n o.dc, .bool o.sy] 50 (0, 0)) := (hAq.block _ (block_lt HJ.out.2.2)).trans HJ.out.2.2
              have d0 : (wr.alloc (.cells #[.int .i64 o2.k, .int .i64 o2.fr, .int .i64 o2.to_, .int .i64 o2.off, .int .i64 o2.len, .slice o2.da o2.n o2.dc, .bool o2.sy] 50)).cell? ⟨b7, 0, none⟩ = some (.int .i64 o.k) := blk_at hwq 0
              have d1 : (wr.alloc (.cells #[.int .i64 o2.k, .int .i64 o2.fr, .int .i64 o2.to_, .int .i64 o2.off, .int .i64 o2.len, .slice o2.da o2.n o2.dc, .bool o2.sy] 50)).cell? ⟨b7, 1, none⟩ = some (.int .i64 o.fr) := blk_at hwq 1
              have d2 : (wr.alloc (.cells #[.int .i64 o2.k, .int .i64 o2.fr, .int .i64 o2.to_, .int .i64 o2.off, .int .i64 o2.len, .slice o2.da o2.n o2.dc, .bool o2.sy] 50)).cell? ⟨b7, 2, none⟩ = some (.int .i64 o.to_) := blk_at hwq 2
              have d3 : (wr.alloc (.cells #[.int .i64 o2.k, .int .i64 o2.fr, .int .i64 o2.to_, .int .i64 o2.off, .int .i64 o2.len, .slice o2.da o2.n o2.dc, .bool o2.sy] 50)).cell? ⟨b7, 3, none⟩ = some (.int .i64 o.off) := blk_at hwq 3
              have d4 : (wr.alloc (.cells #[.int .i64 o2.k, .int .i64 o2.fr, .int .i64 o2.to_, .int .i64 o2.off, .int .i64 o2.len, .slice o2.da o2.n o2.dc, .bool o2.sy] 50)).cell? ⟨b7, 4, none⟩ = some (.int .i64 o.len) := blk_at hwq 4
              have d5 : (wr.alloc (.cells #[.int .i64 o2.k, .int .i64 o2.fr, .int .i64 o2.to_, .int .i64 o2.off, .int .i64 o2.len, .slice o2.da o2.n o2.dc, .bool o2.sy] 50)).cell? ⟨b7, 5, none⟩ = some (.slice o.da o.n o.dc) := blk_at hwq 5
              have d6 : (wr.alloc (.cells #[.int .i64 o2.k, .int .i64 o2.fr, .int .i64 o2.to_, .int .i64 o2.off, .int .i64 o2.len, .slice o2.da o2.n o2.dc, .bool o2.sy] 50)).cell? ⟨b7, 6, none⟩ = some (.bool o.sy) := blk_at hwq 6
              clear hc3 ho2 hwq hAq
              go_wp2_with fail
              refine (HN2.out _).mono ?_
              rintro e3 W3 ⟨rfl, hb3⟩
              have HB3 : Hid (Below wr.heap.size wr W3) := HAq.out.trans (hb3.mono HAq.out.size)
              clear hb3 c0 c1 c2 c3 c4 c5 c6 d0 d1 d2 d3 d4 d5 d6
              have HR3 : Hid (W3.heap[b7]? = some (.cells #[.int .i64 o.k, .int .i64 o.fr, .int .i64 o.to_, .int .i64 o.off, .int .i64 o.len, .slice o.da o.n o.dc, .bool o.sy] 50 (0, 0))) := (HB3.out.block _ (block_lt HJ.out.2.2)).trans HJ.out.2.2
              have HS3 : Hid (Sb W3 w.heap.size (w.heap.size + 2) (some ⟨b, off, none⟩) m oc (mask (owOf l (i + 1))) w.heap.size ((ahOf l i).set i (mask (befOf l o j))) (.slice none 0 0) n [] (w.heap.size + 1)) := HJ.out.1.later HB3.out
              have HW3 : Hid (Below w.heap.size w W3) := HJ.out.2.1.trans (HB3.out.mono HJ.out.2.1.size)
              cases hbf : o2.bef o with
              | false =>
                have HSg : Hid (befOf l o (j + 1) = befOf l o j) := by have := HSf.out; rw [hbf] at this; exact this
                go_wp2
                go_roundw
                case rel =>
                  refine ⟨j + 1, HJm.out, by go_num, ?_⟩
                  show _ ∧ _ ∧ _
                  rw [HSg.out]
                  exact ⟨HS3.out, HW3.out, HR3.out⟩
                case measure => simp [intOf]; omega
              | true =>
                have HSg : Hid (befOf l o (j + 1) = befOf l o j ++ [j]) := by have := HSf.out; rw [hbf] at this; exact this
                obtain ⟨E0, hE0⟩ : ∃ E0, mask (befOf l o j) = E0 := ⟨_, rfl⟩
                obtain ⟨X2, hX2⟩ : ∃ X2, 2 ^ j = X2 := ⟨_, rfl⟩
                obtain ⟨Y2, hY2⟩ : ∃ Y2, E0 ||| X2 = Y2 := ⟨_, rfl⟩
                have hor : bits BinOp.or IntKind.u16 (E0 : Int) (X2 : Int) = (Y2 : Int) := by
                  rw [u16_or_nat _ _ (by rw [← hE0]; exact befOf_mask hj HM.out.2) (by rw [← hX2]; exact Nat.lt_of_lt_of_le (Nat.pow_lt_pow_right (by decide) (show j < 16 by have := HM.out.2; omega)) (by decide)), hY2]
                have HO2 : Hid (∀ U, Calls Try.prog 53 #[.int .i64 (j : Int)] U fun e w' => e = .returned (.int .u16 (X2 : Int)) ∧ w' = U) := fun U => by rw [← hX2]; exact only_any j (by have := HM.out.2; omega) U
                have HEe : Hid (mask (befOf l o (j + 1)) = Y2) := by
                  show _ = _
                  rw [HSg.out, mask_snoc, hE0, hX2, hY2]
                obtain ⟨a3, a4⟩ := HS3.out.ahc (k := i) (List.getElem?_set_self (by rw [ahOf_len]; exact HIl.out))
                rw [hE0] at a3
                have HS4 : Hid (Sb (W3.setCell ⟨w.heap.size, i, none⟩ (.int .u16 (Y2 : Int))) w.heap.size (w.heap.size + 2) (some ⟨b, off, none⟩) m oc (mask (owOf l (i + 1))) w.heap.size ((ahOf l i).set i Y2) (.slice none 0 0) n [] (w.heap.size + 1)) := by
                  have := HS3.out.setAh (k := i) (by rw [← HM.out.1]; exact HIl.out) Y2
                  rw [List.set_set] at this
                  exact this
                have H11 : Hid (W3.cell? ⟨(w.heap.size + 2), 2, none⟩ = some (.slice (some ⟨w.heap.size, 0, none⟩) m m) ∧ (W3.setCell ⟨w.heap.size, i, none⟩ (.int .u16 (Y2 : Int))).cell? ⟨(w.heap.size + 2), 2, none⟩ = some (.slice (some ⟨w.heap.size, 0, none⟩) m m)) := ⟨HS3.out.q2, HS4.out.q2⟩
                have HW4 : Hid (Below w.heap.size w (W3.setCell ⟨w.heap.size, i, none⟩ (.int .u16 (Y2 : Int))).drew) := (HW3.out.setCell (p := ⟨w.heap.size, i, none⟩) HS3.out.ghb.1 _).trans ⟨rfl, rfl, rfl, Nat.le_refl _, fun _ _ => rfl⟩
                have HR4 : Hid ((W3.setCell ⟨w.heap.size, i, none⟩ (.int .u16 (Y2 : Int))).drew.heap[b7]? = some (.cells #[.int .i64 o.k, .int .i64 o.fr, .int .i64 o.to_, .int .i64 o.off, .int .i64 o.len, .slice o.da o.n o.dc, .bool o.sy] 50 (0, 0))) := by
                  show (W3.setCell ⟨w.heap.size, i, none⟩ (.int .u16 (Y2 : Int))).heap[b7]? = _
                  rw [Below.heap_setCell _ _ _ _ (fun e0 => by
                    obtain ⟨_, cu, hcu⟩ := HS3.out.ghb
                    have e1 : b7 = w.heap.size := e0
                    have h5 := HR3.out
                    rw [e1, hcu] at h5; cases h5)]
                  exact HR3.out
                have HS5 : Hid (Sb (W3.setCell ⟨w.heap.size, i, none⟩ (.int .u16 (Y2 : Int))).drew w.heap.size (w.heap.size + 2) (some ⟨b, off, none⟩) m oc (mask (owOf l (i + 1))) w.heap.size ((ahOf l i).set i Y2) (.slice none 0 0) n [] (w.heap.size + 1)) := HS4.out.later ⟨rfl, rfl, rfl, Nat.le_refl _, fun _ _ => rfl⟩
                have ii0 : (0 : Int) ≤ (i : Int) := by omega
                have ii9 : (i : Int) < (m : Int) := HIi.out
                clear hE0 hX2 hY2
                go_wp2_with fail
                refine wp_region_held_drew (S := (fun w' => w'.cell? ⟨(w.heap.size + 2), 2, none⟩ = some (.slice (some ⟨w.heap.size, 0, none⟩) m m))) (by kernel_rfl) ?_ (fun hHeld => ?_)
                · exact H11.out.1
                refine wpAnyH_take (i := 0) (oi := { dst := some 45, op := Op.move (Operand.tmp 5), type := 68, pos := _, after := #[], guard := none }) (v := ?_) rfl (by kernel_rfl) (by kernel_rfl) (by kernel_rfl) (fun _ _ _ h => h) (Or.inl ⟨by rfl, ?_⟩) (by assumption) ?_
                rotate_left
                · (intro w hSw; (try dsimp only at hSw); go_simp) <;> with_reducible rfl
                try simp only [Act.put, List.setIfInBounds_toArray, List.set_cons_zero, List.set_cons_succ]
                refine wpAnyH_take (i := 1) (oi := { dst := some 46, op := Op.nilCheck (Operand.tmp 45), type := 0, pos := _, after := _, guard := none }) (v := ?_) rfl (by kernel_rfl) (by kernel_rfl) (by kernel_rfl) (fun _ _ _ h => h) (Or.inl ⟨by rfl, ?_⟩) (by assumption) ?_
                rotate_left
                · (intro w hSw; (try dsimp only at hSw); go_simp) <;> with_reducible rfl
                try simp only [Act.put, List.setIfInBounds_toArray, List.set_cons_zero, List.set_cons_succ]
                refine wpAnyH_take (i := 2) (oi := { dst := some 47, op := Op.fieldAddr 94 (Operand.tmp 46) 2, type := 0, pos := _, after := _, guard := none }) (v := ?_) rfl (by kernel_rfl) (by kernel_rfl) (by kernel_rfl) (fun _ _ _ h => h) (Or.inl ⟨by rfl, ?_⟩) (by assumption) ?_
                rotate_left
                · (intro w hSw; (try dsimp only at hSw); go_simp) <;> with_reducible rfl
                try simp only [Act.put, List.setIfInBounds_toArray, List.set_cons_zero, List.set_cons_succ]
                refine wpAnyH_take (i := 3) (oi := { dst := some 48, op := Op.load 88 (Operand.tmp 47), type := 88, pos := _, after := _, guard := none }) (v := ?_) rfl (by kernel_rfl) (by kernel_rfl) (by kernel_rfl) (fun _ _ _ h => h) (Or.inl ⟨by rfl, ?_⟩) (by assumption) ?_
                rotate_left
                · (intro w hSw; (try dsimp only at hSw); go_simp) <;> with_reducible rfl
                try simp only [Act.put, List.setIfInBounds_toArray, List.set_cons_zero, List.set_cons_succ]
                refine wpAnyH_take (i := 4) (oi := { dst := some 49, op := Op.move (Operand.tmp 6), type := 3, pos := _, after := #[], guard := none }) (v := ?_) rfl (by kernel_rfl) (by kernel_rfl) (by kernel_rfl) (fun _ _ _ h => h) (Or.inl ⟨by rfl, ?_⟩) (by assumption) ?_
                rotate_left
                · (intro w hSw; (try dsimp only at hSw); go_simp) <;> with_reducible rfl
                try simp only [Act.put, List.setIfInBounds_toArray, List.set_cons_zero, List.set_cons_succ]
                refine wpAnyH_take (i := 5) (oi := { dst := some 50, op := Op.indexAddr 88 (Operand.tmp 48) (Operand.tmp 49), type := 0, pos := _, after := _, guard := none }) (v := ?_) rfl (by kernel_rfl) (by kernel_rfl) (by kernel_rfl) (fun _ _ _ h => h) (Or.inl ⟨by rfl, ?_⟩) (by assumption) ?_
                rotate_left
                · (intro w hSw; (try dsimp only at hSw); go_simp) <;> with_reducible rfl
                try simp only [Act.put, List.setIfInBounds_toArray, List.set_cons_zero, List.set_cons_succ]
                refine wpAnyH_take (i := 7) (oi := { dst := some 52, op := Op.move (Operand.tmp 8), type := 3, pos := _, after := #[], guard := none }) (v := ?_) rfl (by kernel_rfl) (by kernel_rfl) (by kernel_rfl) (fun _ _ _ h => h) (Or.inl ⟨by rfl, ?_⟩) (by assumption) ?_
                rotate_left
                · (intro w hSw; (try dsimp only at hSw); go_simp) <;> with_reducible rfl
                try simp only [Act.put, List.setIfInBounds_toArray, List.set_cons_zero, List.set_cons_succ]
                refine wpAnyH_ready (rs := [6, 8]) (by kernel_rfl) (by simp) ?_
                refine AllReadyH.cons (o := { dst := some 51, op := Op.load 91 (Operand.tmp 50), type := 91, pos := _, after := _, guard := none }) rfl (fun K hK => ?_) (AllReadyH.cons (o := { dst := some 53, op := Op.call { callee := Callee.value (Operand.func 53), args := #[Operand.tmp 52], argTypes := #[3] }, type := 91, pos := _, after := _, guard := none }) rfl (fun K hK => ?_) AllReadyH.nil)
                · go_simp
                  skip
                  try go_simp
                  clear hHeld
                  refine hK.out _ _ ?_ (fun hHeld => ?_)
                  · exact H11.out.1
                  clear hK K
                  try simp only [Act.put, List.setIfInBounds_toArray, List.set_cons_zero, List.set_cons_succ]
                  refine wpAnyH_ready (rs := [8]) (by kernel_rfl) (by simp) ?_
                  refine AllReadyH.cons (o := { dst := some 53, op := Op.call { callee := Callee.value (Operand.func 53), args := #[Operand.tmp 52], argTypes := #[3] }, type := 91, pos := _, after := _, guard := none }) rfl (fun K hK => ?_) AllReadyH.nil
                  go_simp
                  go_at_call 53
                  refine (HO2.out _).mono ?_
                  rintro ex w9 ⟨rfl, rfl⟩
                  try go_simp
                  clear hHeld
                  refine hK.out _ _ ?_ (fun hHeld => ?_)
                  · exact H11.out.1
                  clear hK K
                  try simp only [Act.put, List.setIfInBounds_toArray, List.set_cons_zero, List.set_cons_succ]
                  refine wpAnyH_take (i := 9) (oi := { dst := some 54, op := Op.binOp BinOp.or 91 (Operand.tmp 51) (Operand.tmp 53) 91, type := 91, pos := _, after := _, guard := none }) (v := ?_) rfl (by kernel_rfl) (by kernel_rfl) (by kernel_rfl) (fun _ _ _ h => h) (Or.inl ⟨by rfl, ?_⟩) (by assumption) ?_
                  rotate_left
                  · (intro w hSw; (try dsimp only at hSw); go_simp) <;> with_reducible rfl
                  try simp only [Act.put, List.setIfInBounds_toArray, List.set_cons_zero, List.set_cons_succ]
                  refine wpAnyH_take (i := 10) (oi := { dst := some 55, op := Op.indexAddr 88 (Operand.tmp 48) (Operand.tmp 49), type := 0, pos := _, after := _, guard := none }) (v := ?_) rfl (by kernel_rfl) (by kernel_rfl) (by kernel_rfl) (fun _ _ _ h => h) (Or.inl ⟨by rfl, ?_⟩) (by assumption) ?_
                  rotate_left
                  · (intro w hSw; (try dsimp only at hSw); go_simp) <;> with_reducible rfl
                  try simp only [Act.put, List.setIfInBounds_toArray, List.set_cons_zero, List.set_cons_succ]
                  refine wpAnyH_ready (rs := [11]) (by kernel_rfl) (by simp) ?_
                  refine AllReadyH.cons (o := { dst := none, op := Op.store 91 (Operand.tmp 55) (Operand.tmp 54), type := 0, pos := _, after := _, guard := none }) rfl (fun K hK => ?_) AllReadyH.nil
                  go_simp
                  skip
                  try go_simp
                  clear hHeld
                  refine hK.out _ _ ?_ (fun hHeld => ?_)
                  · exact H11.out.2
                  clear hK K
                  try simp only [Act.put, List.setIfInBounds_toArray, List.set_cons_zero, List.set_cons_succ]
                  refine wpAnyH_done (by kernel_rfl) ?_ _
                  clear hHeld hor a3 a4
                  go_wp2
                  go_roundw
                  case rel =>
                    refine ⟨j + 1, HJm.out, by go_num, ?_⟩
                    show _ ∧ _ ∧ _
                    rw [HEe.out]
                    exact ⟨HS5.out, HW4.out, HR4.out⟩
                  case measure => simp [intOf]; omega
                · go_simp
                  go_at_call 53
                  refine (HO2.out _).mono ?_
                  rintro ex w9 ⟨rfl, rfl⟩
                  try go_simp
                  clear hHeld
                  refine hK.out _ _ ?_ (fun hHeld => ?_)
                  · exact H11.out.1
                  clear hK K
                  try simp only [Act.put, List.setIfInBounds_toArray, List.set_cons_zero, List.set_cons_succ]
                  refine wpAnyH_ready (rs := [6]) (by kernel_rfl) (by simp) ?_
                  refine AllReadyH.cons (o := { dst := some 51, op := Op.load 91 (Operand.tmp 50), type := 91, pos := _, after := _, guard := none }) rfl (fun K hK => ?_) AllReadyH.nil
                  go_simp
                  skip
                  try go_simp
                  clear hHeld
                  refine hK.out _ _ ?_ (fun hHeld => ?_)
                  · exact H11.out.1
                  clear hK K
                  try simp only [Act.put, List.setIfInBounds_toArray, List.set_cons_zero, List.set_cons_succ]
                  refine wpAnyH_take (i := 9) (oi := { dst := some 54, op := Op.binOp BinOp.or 91 (Operand.tmp 51) (Operand.tmp 53) 91, type := 91, pos := _, after := _, guard := none }) (v := ?_) rfl (by kernel_rfl) (by kernel_rfl) (by kernel_rfl) (fun _ _ _ h => h) (Or.inl ⟨by rfl, ?_⟩) (by assumption) ?_
                  rotate_left
                  · (intro w hSw; (try dsimp only at hSw); go_simp) <;> with_reducible rfl
                  try simp only [Act.put, List.setIfInBounds_toArray, List.set_cons_zero, List.set_cons_succ]
                  refine wpAnyH_take (i := 10) (oi := { dst := some 55, op := Op.indexAddr 88 (Operand.tmp 48) (Operand.tmp 49), type := 0, pos := _, after := _, guard := none }) (v := ?_) rfl (by kernel_rfl) (by kernel_rfl) (by kernel_rfl) (fun _ _ _ h => h) (Or.inl ⟨by rfl, ?_⟩) (by assumption) ?_
                  rotate_left
                  · (intro w hSw; (try dsimp only at hSw); go_simp) <;> with_reducible rfl
                  try simp only [Act.put, List.setIfInBounds_toArray, List.set_cons_zero, List.set_cons_succ]
                  refine wpAnyH_ready (rs := [11]) (by kernel_rfl) (by simp) ?_
                  refine AllReadyH.cons (o := { dst := none, op := Op.store 91 (Operand.tmp 55) (Operand.tmp 54), type := 0, pos := _, after := _, guard := none }) rfl (fun K hK => ?_) AllReadyH.nil
                  go_simp
                  skip
                  try go_simp
                  clear hHeld
                  refine hK.out _ _ ?_ (fun hHeld => ?_)
                  · exact H11.out.2
                  clear hK K
                  try simp only [Act.put, List.setIfInBounds_toArray, List.set_cons_zero, List.set_cons_succ]
                  refine wpAnyH_done (by kernel_rfl) ?_ _
                  clear hHeld hor a3 a4
                  go_wp2
                  go_roundw
                  case rel =>
                    refine ⟨j + 1, HJm.out, by go_num, ?_⟩
                    show _ ∧ _ ∧ _
                    rw [HEe.out]
                    exact ⟨HS5.out, HW4.out, HR4.out⟩
                  case measure => simp [intOf]; omega

            · have nn9 : decide ((j : Int) < (m : Int)) = false := decide_eq_false (by omega)
              have HJe : Hid (j = m) := Nat.le_antisymm hj (Nat.le_of_not_lt hjm)
              go_wp2
              go_roundw
              case rel =>
                refine ⟨i + 1, HIm.out, by go_num, ?_⟩
                show _ ∧ _
                have h5 := HJ.out.1
                rw [HJe.out, ← HM.out.1, ahOf_succ HOo.out, HM.out.1] at h5
                exact ⟨h5, HJ.out.2.1⟩
              case measure => simp [intOf]; omega
        · go_simp
          go_at_call 53
          refine (HO2.out _).mono ?_
          rintro ex w9 ⟨rfl, rfl⟩
          try go_simp
          clear hHeld
          refine hK.out _ _ ?_ (fun hHeld => ?_)
          · exact trivial
          clear hK K
          try simp only [Act.put, List.setIfInBounds_toArray, List.set_cons_zero, List.set_cons_succ]
          refine wpAnyH_ready (rs := [3]) (by kernel_rfl) (by simp) ?_
          refine AllReadyH.cons (o := { dst := some 29, op := Op.load 91 (Operand.tmp 28), type := 91, pos := _, after := _, guard := none }) rfl (fun K hK => ?_) AllReadyH.nil
          go_simp
          skip
          try go_simp
          clear hHeld
          refine hK.out _ _ ?_ (fun hHeld => ?_)
          · exact trivial
          clear hK K
          try simp only [Act.put, List.setIfInBounds_toArray, List.set_cons_zero, List.set_cons_succ]
          refine wpAnyH_take (i := 6) (oi := { dst := some 32, op := Op.binOp BinOp.or 91 (Operand.tmp 29) (Operand.tmp 31) 91, type := 91, pos := _, after := _, guard := none }) (v := ?_) rfl (by kernel_rfl) (by kernel_rfl) (by kernel_rfl) (fun _ _ _ h => h) (Or.inl ⟨by rfl, ?_⟩) (by assumption) ?_
          rotate_left
          · (intro w hSw; (try dsimp only at hSw); go_simp) <;> with_reducible rfl
          try simp only [Act.put, List.setIfInBounds_toArray, List.set_cons_zero, List.set_cons_succ]
          refine wpAnyH_take (i := 7) (oi := { dst := some 33, op := Op.nilCheck (Operand.tmp 26), type := 0, pos := _, after := _, guard := none }) (v := ?_) rfl (by kernel_rfl) (by kernel_rfl) (by kernel_rfl) (fun _ _ _ h => h) (Or.inl ⟨by rfl, ?_⟩) (by assumption) ?_
          rotate_left
          · (intro w hSw; (try dsimp only at hSw); go_simp) <;> with_reducible rfl
          try simp only [Act.put, List.setIfInBounds_toArray, List.set_cons_zero, List.set_cons_succ]
          refine wpAnyH_take (i := 8) (oi := { dst := some 34, op := Op.fieldAddr 94 (Operand.tmp 33) 1, type := 0, pos := _, after := _, guard := none }) (v := ?_) rfl (by kernel_rfl) (by kernel_rfl) (by kernel_rfl) (fun _ _ _ h => h) (Or.inl ⟨by rfl, ?_⟩) (by assumption) ?_
          rotate_left
          · (intro w hSw; (try dsimp only at hSw); go_simp) <;> with_reducible rfl
          try simp only [Act.put, List.setIfInBounds_toArray, List.set_cons_zero, List.set_cons_succ]
          refine wpAnyH_ready (rs := [9]) (by kernel_rfl) (by simp) ?_
          refine AllReadyH.cons (o := { dst := none, op := Op.store 91 (Operand.tmp 34) (Operand.tmp 32), type := 0, pos := _, after := _, guard := none }) rfl (fun K hK => ?_) AllReadyH.nil
          go_simp
          skip
          try go_simp
          clear hHeld
          refine hK.out _ _ ?_ (fun hHeld => ?_)
          · exact trivial
          clear hK K
          try simp only [Act.put, List.setIfInBounds_toArray, List.set_cons_zero, List.set_cons_succ]
          refine wpAnyH_done (by kernel_rfl) ?_ _
          clear hHeld hor q1 q1f
          go_wp2_with fail

          go_loopw [37] (fun xv wr => ∃ (j : Nat), j ≤ m ∧ xv = .int .i64 (j : Int) ∧ Hid (Sb wr w.heap.size (w.heap.size + 2) (some ⟨b, off, none⟩) m oc (mask (owOf l (i + 1))) w.heap.size ((ahOf l i).set i (mask (befOf l o j))) (.slice none 0 0) n [] (w.heap.size + 1) ∧ Below w.heap.size w wr ∧ wr.heap[b7]? = some (.cells #[.int .i64 o.k, .int .i64 o.fr, .int .i64 o.to_, .int .i64 o.off, .int .i64 o.len, .slice o.da o.n o.dc, .bool o.sy] 50 (0, 0)))) (fun xv _ => m - (intOf xv).toNat)
          case atStart =>
            refine ⟨0, Nat.zero_le _, rfl, ?_⟩
            show _ ∧ _ ∧ _
            rw [show mask (befOf l o 0) = 0 by simp [befOf, mask], ahOf_set0 HIl.out]
            exact HI0.out
          case round =>
            obtain ⟨j, hj, rfl, HJ⟩ := hrel
            clear HI0
            by_cases hjm : j < m
            · have nn9 : decide ((j : Int) < (m : Int)) = true := decide_eq_true (by omega)
              have jj0 : (0 : Int) ≤ (j : Int) := by omega
              have jj9 : (j : Int) < (m : Int) := by omega
              have HJm : Hid (j < m) := hjm
              obtain ⟨o2, ho2⟩ : ∃ o2, l[j]? = some o2 := ⟨_, List.getElem?_eq_getElem (by rw [HM.out.1]; exact hjm)⟩
              obtain ⟨b2, off2, e2, hc3⟩ := ops_at (HO.out wr HJ.out.2.1) ho2
              cases e2
              have HSf : Hid (befOf l o (j + 1) = if o2.bef o then befOf l o j ++ [j] else befOf l o j) := befOf_succ ho2
              have HN2 : Hid (∀ U, Calls Try.prog 54 #[.agg #[.int .i64 o2.k, .int .i64 o2.fr, .int .i64 o2.to_, .int .i64 o2.off, .int .i64 o2.len, .slice o2.da o2.n o2.dc, .bool o2.sy], .agg #[.int .i64 o.k, .int .i64 o.fr, .int .i64 o.to_, .int .i64 o.off, .int .i64 o.len, .slice o.da o.n o.dc, .bool o.sy]] U fun e w' => e = .returned (.bool (o2.bef o)) ∧ Below U.heap.size U w') := fun U => before_any o2 o U
              have c0 : wr.cell? ⟨b, off + j * 7, none⟩ = some (.int .i64 o2.k) := hc3 0 _ rfl
              have c1 : wr.cell? ⟨b, off + j * 7 + 1, none⟩ = some (.int .i64 o2.fr) := hc3 1 _ rfl
              have c2 : wr.cell? ⟨b, off + j * 7 + 2, none⟩ = some (.int .i64 o2.to_) := hc3 2 _ rfl
              have c3 : wr.cell? ⟨b, off + j * 7 + 3, none⟩ = some (.int .i64 o2.off) := hc3 3 _ rfl
              have c4 : wr.cell? ⟨b, off + j * 7 + 4, none⟩ = some (.int .i64 o2.len) := hc3 4 _ rfl
              have c5 : wr.cell? ⟨b, off + j * 7 + 5, none⟩ = some (.slice o2.da o2.n o2.dc) := hc3 5 _ rfl
              have c6 : wr.cell? ⟨b, off + j * 7 + 6, none⟩ = some (.bool o2.sy) := hc3 6 _ rfl
              have hAq : Below wr.heap.size wr (wr.alloc (.cells #[.int .i64 o2.k, .int .i64 o2.fr, .int .i64 o2.to_, .int .i64 o2.off, .int .i64 o2.len, .slice o2.da o2.n o2.dc, .bool o2.sy] 50)) := (Below.refl _ wr).alloc (Nat.le_refl _) _
              have HAq : Hid (Below wr.heap.size wr (wr.alloc (.cells #[.int .i64 o2.k, .int .i64 o2.fr, .int .i64 o2.to_, .int .i64 o2.off, .int .i64 o2.len, .slice o2.da o2.n o2.dc, .bool o2.sy] 50))) := hAq
              have hwq : (wr.alloc (.cells #[.int .i64 o2.k, .int .i64 o2.fr, .int .i64 o2.to_, .int .i64 o2.off, .int .i64 o2.len, .slice o2.da o2.n o2.dc, .bool o2.sy] 50)).heap[b7]? = some (.cells #[.int .i64 o.k, .int .i64 o.fr, .int .i64 o.to_, .int .i64 o.off, .int .i64 o.len, .slice o.da o.n o.dc, .bool o.sy] 50 (0, 0)) := (hAq.block _ (block_lt HJ.out.2.2)).trans HJ.out.2.2
              have d0 : (wr.alloc (.cells #[.int .i64 o2.k, .int .i64 o2.fr, .int .i64 o2.to_, .int .i64 o2.off, .int .i64 o2.len, .slice o2.da o2.n o2.dc, .bool o2.sy] 50)).cell? ⟨b7, 0, none⟩ = some (.int .i64 o.k) := blk_at hwq 0
              have d1 : (wr.alloc (.cells #[.int .i64 o2.k, .int .i64 o2.fr, .int .i64 o2.to_, .int .i64 o2.off, .int .i64 o2.len, .slice o2.da o2.n o2.dc, .bool o2.sy] 50)).cell? ⟨b7, 1, none⟩ = some (.int .i64 o.fr) := blk_at hwq 1
              have d2 : (wr.alloc (.cells #[.int .i64 o2.k, .int .i64 o2.fr, .int .i64 o2.to_, .int .i64 o2.off, .int .i64 o2.len, .slice o2.da o2.n o2.dc, .bool o2.sy] 50)).cell? ⟨b7, 2, none⟩ = some (.int .i64 o.to_) := blk_at hwq 2
              have d3 : (wr.alloc (.cells #[.int .i64 o2.k, .int .i64 o2.fr, .int .i64 o2.to_, .int .i64 o2.off, .int .i64 o2.len, .slice o2.da o2.n o2.dc, .bool o2.sy] 50)).cell? ⟨b7, 3, none⟩ = some (.int .i64 o.off) := blk_at hwq 3
              have d4 : (wr.alloc (.cells #[.int .i64 o2.k, .int .i64 o2.fr, .int .i64 o2.to_, .int .i64 o2.off, .int .i64 o2.len, .slice o2.da o2.n o2.dc, .bool o2.sy] 50)).cell? ⟨b7, 4, none⟩ = some (.int .i64 o.len) := blk_at hwq 4
              have d5 : (wr.alloc (.cells #[.int .i64 o2.k, .int .i64 o2.fr, .int .i64 o2.to_, .int .i64 o2.off, .int .i64 o2.len, .slice o2.da o2.n o2.dc, .bool o2.sy] 50)).cell? ⟨b7, 5, none⟩ = some (.slice o.da o.n o.dc) := blk_at hwq 5
              have d6 : (wr.alloc (.cells #[.int .i64 o2.k, .int .i64 o2.fr, .int .i64 o2.to_, .int .i64 o2.off, .int .i64 o2.len, .slice o2.da o2.n o2.dc, .bool o2.sy] 50)).cell? ⟨b7, 6, none⟩ = some (.bool o.sy) := blk_at hwq 6
              clear hc3 ho2 hwq hAq
              go_wp2_with fail
              refine (HN2.out _).mono ?_
              rintro e3 W3 ⟨rfl, hb3⟩
              have HB3 : Hid (Below wr.heap.size wr W3) := HAq.out.trans (hb3.mono HAq.out.size)
              clear hb3 c0 c1 c2 c3 c4 c5 c6 d0 d1 d2 d3 d4 d5 d6
              have HR3 : Hid (W3.heap[b7]? = some (.cells #[.int .i64 o.k, .int .i64 o.fr, .int .i64 o.to_, .int .i64 o.off, .int .i64 o.len, .slice o.da o.n o.dc, .bool o.sy] 50 (0, 0))) := (HB3.out.block _ (block_lt HJ.out.2.2)).trans HJ.out.2.2
              have HS3 : Hid (Sb W3 w.heap.size (w.heap.size + 2) (some ⟨b, off, none⟩) m oc (mask (owOf l (i + 1))) w.heap.size ((ahOf l i).set i (mask (befOf l o j))) (.slice none 0 0) n [] (w.heap.size + 1)) := HJ.out.1.later HB3.out
              have HW3 : Hid (Below w.heap.size w W3) := HJ.out.2.1.trans (HB3.out.mono HJ.out.2.1.size)
              cases hbf : o2.bef o with
              | false =>
                have HSg : Hid (befOf l o (j + 1) = befOf l o j) := by have := HSf.out; rw [hbf] at this; exact this
                go_wp2
                go_roundw
                case rel =>
                  refine ⟨j + 1, HJm.out, by go_num, ?_⟩
                  show _ ∧ _ ∧ _
                  rw [HSg.out]
                  exact ⟨HS3.out, HW3.out, HR3.out⟩
                case measure => simp [intOf]; omega
              | true =>
                have HSg : Hid (befOf l o (j + 1) = befOf l o j ++ [j]) := by have := HSf.out; rw [hbf] at this; exact this
                obtain ⟨E0, hE0⟩ : ∃ E0, mask (befOf l o j) = E0 := ⟨_, rfl⟩
                obtain ⟨X2, hX2⟩ : ∃ X2, 2 ^ j = X2 := ⟨_, rfl⟩
                obtain ⟨Y2, hY2⟩ : ∃ Y2, E0 ||| X2 = Y2 := ⟨_, rfl⟩
                have hor : bits BinOp.or IntKind.u16 (E0 : Int) (X2 : Int) = (Y2 : Int) := by
                  rw [u16_or_nat _ _ (by rw [← hE0]; exact befOf_mask hj HM.out.2) (by rw [← hX2]; exact Nat.lt_of_lt_of_le (Nat.pow_lt_pow_right (by decide) (show j < 16 by have := HM.out.2; omega)) (by decide)), hY2]
                have HO2 : Hid (∀ U, Calls Try.prog 53 #[.int .i64 (j : Int)] U fun e w' => e = .returned (.int .u16 (X2 : Int)) ∧ w' = U) := fun U => by rw [← hX2]; exact only_any j (by have := HM.out.2; omega) U
                have HEe : Hid (mask (befOf l o (j + 1)) = Y2) := by
                  show _ = _
                  rw [HSg.out, mask_snoc, hE0, hX2, hY2]
                obtain ⟨a3, a4⟩ := HS3.out.ahc (k := i) (List.getElem?_set_self (by rw [ahOf_len]; exact HIl.out))
                rw [hE0] at a3
                have HS4 : Hid (Sb (W3.setCell ⟨w.heap.size, i, none⟩ (.int .u16 (Y2 : Int))) w.heap.size (w.heap.size + 2) (some ⟨b, off, none⟩) m oc (mask (owOf l (i + 1))) w.heap.size ((ahOf l i).set i Y2) (.slice none 0 0) n [] (w.heap.size + 1)) := by
                  have := HS3.out.setAh (k := i) (by rw [← HM.out.1]; exact HIl.out) Y2
                  rw [List.set_set] at this
                  exact this
                have H11 : Hid (W3.cell? ⟨(w.heap.size + 2), 2, none⟩ = some (.slice (some ⟨w.heap.size, 0, none⟩) m m) ∧ (W3.setCell ⟨w.heap.size, i, none⟩ (.int .u16 (Y2 : Int))).cell? ⟨(w.heap.size + 2), 2, none⟩ = some (.slice (some ⟨w.heap.size, 0, none⟩) m m)) := ⟨HS3.out.q2, HS4.out.q2⟩
                have HW4 : Hid (Below w.heap.size w (W3.setCell ⟨w.heap.size, i, none⟩ (.int .u16 (Y2 : Int))).drew) := (HW3.out.setCell (p := ⟨w.heap.size, i, none⟩) HS3.out.ghb.1 _).trans ⟨rfl, rfl, rfl, Nat.le_refl _, fun _ _ => rfl⟩
                have HR4 : Hid ((W3.setCell ⟨w.heap.size, i, none⟩ (.int .u16 (Y2 : Int))).drew.heap[b7]? = some (.cells #[.int .i64 o.k, .int .i64 o.fr, .int .i64 o.to_, .int .i64 o.off, .int .i64 o.len, .slice o.da o.n o.dc, .bool o.sy] 50 (0, 0))) := by
                  show (W3.setCell ⟨w.heap.size, i, none⟩ (.int .u16 (Y2 : Int))).heap[b7]? = _
                  rw [Below.heap_setCell _ _ _ _ (fun e0 => by
                    obtain ⟨_, cu, hcu⟩ := HS3.out.ghb
                    have e1 : b7 = w.heap.size := e0
                    have h5 := HR3.out
                    rw [e1, hcu] at h5; cases h5)]
                  exact HR3.out
                have HS5 : Hid (Sb (W3.setCell ⟨w.heap.size, i, none⟩ (.int .u16 (Y2 : Int))).drew w.heap.size (w.heap.size + 2) (some ⟨b, off, none⟩) m oc (mask (owOf l (i + 1))) w.heap.size ((ahOf l i).set i Y2) (.slice none 0 0) n [] (w.heap.size + 1)) := HS4.out.later ⟨rfl, rfl, rfl, Nat.le_refl _, fun _ _ => rfl⟩
                have ii0 : (0 : Int) ≤ (i : Int) := by omega
                have ii9 : (i : Int) < (m : Int) := HIi.out
                clear hE0 hX2 hY2
                go_wp2_with fail
                refine wp_region_held_drew (S := (fun w' => w'.cell? ⟨(w.heap.size + 2), 2, none⟩ = some (.slice (some ⟨w.heap.size, 0, none⟩) m m))) (by kernel_rfl) ?_ (fun hHeld => ?_)
                · exact H11.out.1
                refine wpAnyH_take (i := 0) (oi := { dst := some 45, op := Op.move (Operand.tmp 5), type := 68, pos := _, after := #[], guard := none }) (v := ?_) rfl (by kernel_rfl) (by kernel_rfl) (by kernel_rfl) (fun _ _ _ h => h) (Or.inl ⟨by rfl, ?_⟩) (by assumption) ?_
                rotate_left
                · (intro w hSw; (try dsimp only at hSw); go_simp) <;> with_reducible rfl
                try simp only [Act.put, List.setIfInBounds_toArray, List.set_cons_zero, List.set_cons_succ]
                refine wpAnyH_take (i := 1) (oi := { dst := some 46, op := Op.nilCheck (Operand.tmp 45), type := 0, pos := _, after := _, guard := none }) (v := ?_) rfl (by kernel_rfl) (by kernel_rfl) (by kernel_rfl) (fun _ _ _ h => h) (Or.inl ⟨by rfl, ?_⟩) (by assumption) ?_
                rotate_left
                · (intro w hSw; (try dsimp only at hSw); go_simp) <;> with_reducible rfl
                try simp only [Act.put, List.setIfInBounds_toArray, List.set_cons_zero, List.set_cons_succ]
                refine wpAnyH_take (i := 2) (oi := { dst := some 47, op := Op.fieldAddr 94 (Operand.tmp 46) 2, type := 0, pos := _, after := _, guard := none }) (v := ?_) rfl (by kernel_rfl) (by kernel_rfl) (by kernel_rfl) (fun _ _ _ h => h) (Or.inl ⟨by rfl, ?_⟩) (by assumption) ?_
                rotate_left
                · (intro w hSw; (try dsimp only at hSw); go_simp) <;> with_reducible rfl
                try simp only [Act.put, List.setIfInBounds_toArray, List.set_cons_zero, List.set_cons_succ]
                refine wpAnyH_take (i := 3) (oi := { dst := some 48, op := Op.load 88 (Operand.tmp 47), type := 88, pos := _, after := _, guard := none }) (v := ?_) rfl (by kernel_rfl) (by kernel_rfl) (by kernel_rfl) (fun _ _ _ h => h) (Or.inl ⟨by rfl, ?_⟩) (by assumption) ?_
                rotate_left
                · (intro w hSw; (try dsimp only at hSw); go_simp) <;> with_reducible rfl
                try simp only [Act.put, List.setIfInBounds_toArray, List.set_cons_zero, List.set_cons_succ]
                refine wpAnyH_take (i := 4) (oi := { dst := some 49, op := Op.move (Operand.tmp 6), type := 3, pos := _, after := #[], guard := none }) (v := ?_) rfl (by kernel_rfl) (by kernel_rfl) (by kernel_rfl) (fun _ _ _ h => h) (Or.inl ⟨by rfl, ?_⟩) (by assumption) ?_
                rotate_left
                · (intro w hSw; (try dsimp only at hSw); go_simp) <;> with_reducible rfl
                try simp only [Act.put, List.setIfInBounds_toArray, List.set_cons_zero, List.set_cons_succ]
                refine wpAnyH_take (i := 5) (oi := { dst := some 50, op := Op.indexAddr 88 (Operand.tmp 48) (Operand.tmp 49), type := 0, pos := _, after := _, guard := none }) (v := ?_) rfl (by kernel_rfl) (by kernel_rfl) (by kernel_rfl) (fun _ _ _ h => h) (Or.inl ⟨by rfl, ?_⟩) (by assumption) ?_
                rotate_left
                · (intro w hSw; (try dsimp only at hSw); go_simp) <;> with_reducible rfl
                try simp only [Act.put, List.setIfInBounds_toArray, List.set_cons_zero, List.set_cons_succ]
                refine wpAnyH_take (i := 7) (oi := { dst := some 52, op := Op.move (Operand.tmp 8), type := 3, pos := _, after := #[], guard := none }) (v := ?_) rfl (by kernel_rfl) (by kernel_rfl) (by kernel_rfl) (fun _ _ _ h => h) (Or.inl ⟨by rfl, ?_⟩) (by assumption) ?_
                rotate_left
                · (intro w hSw; (try dsimp only at hSw); go_simp) <;> with_reducible rfl
                try simp only [Act.put, List.setIfInBounds_toArray, List.set_cons_zero, List.set_cons_succ]
                refine wpAnyH_ready (rs := [6, 8]) (by kernel_rfl) (by simp) ?_
                refine AllReadyH.cons (o := { dst := some 51, op := Op.load 91 (Operand.tmp 50), type := 91, pos := _, after := _, guard := none }) rfl (fun K hK => ?_) (AllReadyH.cons (o := { dst := some 53, op := Op.call { callee := Callee.value (Operand.func 53), args := #[Operand.tmp 52], argTypes := #[3] }, type := 91, pos := _, after := _, guard := none }) rfl (fun K hK => ?_) AllReadyH.nil)
                · go_simp
                  skip
                  try go_simp
                  clear hHeld
                  refine hK.out _ _ ?_ (fun hHeld => ?_)
                  · exact H11.out.1
                  clear hK K
                  try simp only [Act.put, List.setIfInBounds_toArray, List.set_cons_zero, List.set_cons_succ]
                  refine wpAnyH_ready (rs := [8]) (by kernel_rfl) (by simp) ?_
                  refine AllReadyH.cons (o := { dst := some 53, op := Op.call { callee := Callee.value (Operand.func 53), args := #[Operand.tmp 52], argTypes := #[3] }, type := 91, pos := _, after := _, guard := none }) rfl (fun K hK => ?_) AllReadyH.nil
                  go_simp
                  go_at_call 53
                  refine (HO2.out _).mono ?_
                  rintro ex w9 ⟨rfl, rfl⟩
                  try go_simp
                  clear hHeld
                  refine hK.out _ _ ?_ (fun hHeld => ?_)
                  · exact H11.out.1
                  clear hK K
                  try simp only [Act.put, List.setIfInBounds_toArray, List.set_cons_zero, List.set_cons_succ]
                  refine wpAnyH_take (i := 9) (oi := { dst := some 54, op := Op.binOp BinOp.or 91 (Operand.tmp 51) (Operand.tmp 53) 91, type := 91, pos := _, after := _, guard := none }) (v := ?_) rfl (by kernel_rfl) (by kernel_rfl) (by kernel_rfl) (fun _ _ _ h => h) (Or.inl ⟨by rfl, ?_⟩) (by assumption) ?_
                  rotate_left
                  · (intro w hSw; (try dsimp only at hSw); go_simp) <;> with_reducible rfl
                  try simp only [Act.put, List.setIfInBounds_toArray, List.set_cons_zero, List.set_cons_succ]
                  refine wpAnyH_take (i := 10) (oi := { dst := some 55, op := Op.indexAddr 88 (Operand.tmp 48) (Operand.tmp 49), type := 0, pos := _, after := _, guard := none }) (v := ?_) rfl (by kernel_rfl) (by kernel_rfl) (by kernel_rfl) (fun _ _ _ h => h) (Or.inl ⟨by rfl, ?_⟩) (by assumption) ?_
                  rotate_left
                  · (intro w hSw; (try dsimp only at hSw); go_simp) <;> with_reducible rfl
                  try simp only [Act.put, List.setIfInBounds_toArray, List.set_cons_zero, List.set_cons_succ]
                  refine wpAnyH_ready (rs := [11]) (by kernel_rfl) (by simp) ?_
                  refine AllReadyH.cons (o := { dst := none, op := Op.store 91 (Operand.tmp 55) (Operand.tmp 54), type := 0, pos := _, after := _, guard := none }) rfl (fun K hK => ?_) AllReadyH.nil
                  go_simp
                  skip
                  try go_simp
                  clear hHeld
                  refine hK.out _ _ ?_ (fun hHeld => ?_)
                  · exact H11.out.2
                  clear hK K
                  try simp only [Act.put, List.setIfInBounds_toArray, List.set_cons_zero, List.set_cons_succ]
                  refine wpAnyH_done (by kernel_rfl) ?_ _
                  clear hHeld hor a3 a4
                  go_wp2
                  go_roundw
                  case rel =>
                    refine ⟨j + 1, HJm.out, by go_num, ?_⟩
                    show _ ∧ _ ∧ _
                    rw [HEe.out]
                    exact ⟨HS5.out, HW4.out, HR4.out⟩
                  case measure => simp [intOf]; omega
                · go_simp
                  go_at_call 53
                  refine (HO2.out _).mono ?_
                  rintro ex w9 ⟨rfl, rfl⟩
                  try go_simp
                  clear hHeld
                  refine hK.out _ _ ?_ (fun hHeld => ?_)
                  · exact H11.out.1
                  clear hK K
                  try simp only [Act.put, List.setIfInBounds_toArray, List.set_cons_zero, List.set_cons_succ]
                  refine wpAnyH_ready (rs := [6]) (by kernel_rfl) (by simp) ?_
                  refine AllReadyH.cons (o := { dst := some 51, op := Op.load 91 (Operand.tmp 50), type := 91, pos := _, after := _, guard := none }) rfl (fun K hK => ?_) AllReadyH.nil
                  go_simp
                  skip
                  try go_simp
                  clear hHeld
                  refine hK.out _ _ ?_ (fun hHeld => ?_)
                  · exact H11.out.1
                  clear hK K
                  try simp only [Act.put, List.setIfInBounds_toArray, List.set_cons_zero, List.set_cons_succ]
                  refine wpAnyH_take (i := 9) (oi := { dst := some 54, op := Op.binOp BinOp.or 91 (Operand.tmp 51) (Operand.tmp 53) 91, type := 91, pos := _, after := _, guard := none }) (v := ?_) rfl (by kernel_rfl) (by kernel_rfl) (by kernel_rfl) (fun _ _ _ h => h) (Or.inl ⟨by rfl, ?_⟩) (by assumption) ?_
                  rotate_left
                  · (intro w hSw; (try dsimp only at hSw); go_simp) <;> with_reducible rfl
                  try simp only [Act.put, List.setIfInBounds_toArray, List.set_cons_zero, List.set_cons_succ]
                  refine wpAnyH_take (i := 10) (oi := { dst := some 55, op := Op.indexAddr 88 (Operand.tmp 48) (Operand.tmp 49), type := 0, pos := _, after := _, guard := none }) (v := ?_) rfl (by kernel_rfl) (by kernel_rfl) (by kernel_rfl) (fun _ _ _ h => h) (Or.inl ⟨by rfl, ?_⟩) (by assumption) ?_
                  rotate_left
                  · (intro w hSw; (try dsimp only at hSw); go_simp) <;> with_reducible rfl
                  try simp only [Act.put, List.setIfInBounds_toArray, List.set_cons_zero, List.set_cons_succ]
                  refine wpAnyH_ready (rs := [11]) (by kernel_rfl) (by simp) ?_
                  refine AllReadyH.cons (o := { dst := none, op := Op.store 91 (Operand.tmp 55) (Operand.tmp 54), type := 0, pos := _, after := _, guard := none }) rfl (fun K hK => ?_) AllReadyH.nil
                  go_simp
                  skip
                  try go_simp
                  clear hHeld
                  refine hK.out _ _ ?_ (fun hHeld => ?_)
                  · exact H11.out.2
                  clear hK K
                  try simp only [Act.put, List.setIfInBounds_toArray, List.set_cons_zero, List.set_cons_succ]
                  refine wpAnyH_done (by kernel_rfl) ?_ _
                  clear hHeld hor a3 a4
                  go_wp2
                  go_roundw
                  case rel =>
                    refine ⟨j + 1, HJm.out, by go_num, ?_⟩
                    show _ ∧ _ ∧ _
                    rw [HEe.out]
                    exact ⟨HS5.out, HW4.out, HR4.out⟩
                  case measure => simp [intOf]; omega

            · have nn9 : decide ((j : Int) < (m : Int)) = false := decide_eq_false (by omega)
              have HJe : Hid (j = m) := Nat.le_antisymm hj (Nat.le_of_not_lt hjm)
              go_wp2
              go_roundw
              case rel =>
                refine ⟨i + 1, HIm.out, by go_num, ?_⟩
                show _ ∧ _
                have h5 := HJ.out.1
                rw [HJe.out, ← HM.out.1, ahOf_succ HOo.out, HM.out.1] at h5
                exact ⟨h5, HJ.out.2.1⟩
              case measure => simp [intOf]; omega

    · have n9 : decide ((i : Int) < (m : Int)) = false := decide_eq_false (by omega)
      have HIe : Hid (i = m) := Nat.le_antisymm hi (Nat.le_of_not_lt hlt)
      have HLv : Hid (Sb wr w.heap.size (w.heap.size + 2) oa m oc (mask (owOf l m)) w.heap.size (ahOf l m) (.slice none 0 0) n [] (w.heap.size + 1) ∧ Below w.heap.size w wr) := by
        have h5 := HQ.out
        rw [HIe.out] at h5
        exact h5
      obtain ⟨m1, hm1⟩ : ∃ m1, m + 1 = m1 := ⟨_, rfl⟩
      have HM1 : Hid (m + 1 = m1) := hm1
      have hwr : IntKind.i64.wrap ((m : Int) + 1) = (m1 : Int) := by rw [IntKind.wrap_i64]; omega
      clear HQ
      go_wp2_with fail
      go_loopw [61] (fun xv wr => ∃ (k : Nat) (lv : Value) (L : List Lv), k ≤ m1 ∧ xv = .int .i64 (k : Int) ∧ Hid (Sb wr w.heap.size (w.heap.size + 2) oa m oc (mask (owOf l m)) w.heap.size (ahOf l m) lv n L (w.heap.size + 1) ∧ L.length = k ∧ (∀ (j : Nat) (v : Lv), L[j]? = some v → v.D = 0 ∧ v.bs = first ∧ v.x = 0) ∧ Below w.heap.size w wr)) (fun xv _ => m1 - (intOf xv).toNat)
      case atStart => exact ⟨0, .slice none 0 0, [], Nat.zero_le _, rfl, HLv.out.1, rfl, fun j v h => by simp at h, HLv.out.2⟩
      case round =>
        obtain ⟨k, lv, L, hk, rfl, HJ⟩ := hrel
        clear HLv
        by_cases hkm : k < m1
        · have nn9 : decide ((k : Int) < (m1 : Int)) = true := decide_eq_true (by omega)
          have HKm : Hid (k < m1) := hkm
          have HK : Hid (L.length ≤ 1099511627776 ∧ k < m1) := ⟨by rw [HJ.out.2.1]; have := HM.out.2; omega, hkm⟩
          have HBw : Hid (w.heap.size ≤ wr.heap.size) := HJ.out.2.2.2.size
          have HBd : Hid (Below w.heap.size w wr.drew) := HJ.out.2.2.2.trans ⟨rfl, rfl, rfl, Nat.le_refl _, fun _ _ => rfl⟩
          have HSd : Hid (Sb wr.drew w.heap.size (w.heap.size + 2) oa m oc (mask (owOf l m)) w.heap.size (ahOf l m) lv n L (w.heap.size + 1)) := HJ.out.1.later ⟨rfl, rfl, rfl, Nat.le_refl _, fun _ _ => rfl⟩
          have q30 : wr.cell? ⟨(w.heap.size + 2), 3, none⟩ = some lv := HJ.out.1.q3
          clear hwr
          go_wp2_with fail
          refine wp_region_held_drew (S := (fun _ => True)) (by kernel_rfl) ?_ (fun hHeld => ?_)
          · exact trivial
          refine wpAnyH_take (i := 0) (oi := { dst := some 63, op := Op.move (Operand.tmp 5), type := 68, pos := _, after := #[], guard := none }) (v := ?_) rfl (by kernel_rfl) (by kernel_rfl) (by kernel_rfl) (fun _ _ _ h => h) (Or.inl ⟨by rfl, ?_⟩) (by assumption) ?_
          rotate_left
          · (intro w hSw; (try dsimp only at hSw); go_simp) <;> with_reducible rfl
          try simp only [Act.put, List.setIfInBounds_toArray, List.set_cons_zero, List.set_cons_succ]
          refine wpAnyH_take (i := 1) (oi := { dst := some 64, op := Op.move (Operand.tmp 5), type := 68, pos := _, after := #[], guard := none }) (v := ?_) rfl (by kernel_rfl) (by kernel_rfl) (by kernel_rfl) (fun _ _ _ h => h) (Or.inl ⟨by rfl, ?_⟩) (by assumption) ?_
          rotate_left
          · (intro w hSw; (try dsimp only at hSw); go_simp) <;> with_reducible rfl
          try simp only [Act.put, List.setIfInBounds_toArray, List.set_cons_zero, List.set_cons_succ]
          refine wpAnyH_take (i := 2) (oi := { dst := some 65, op := Op.nilCheck (Operand.tmp 64), type := 0, pos := _, after := _, guard := none }) (v := ?_) rfl (by kernel_rfl) (by kernel_rfl) (by kernel_rfl) (fun _ _ _ h => h) (Or.inl ⟨by rfl, ?_⟩) (by assumption) ?_
          rotate_left
          · (intro w hSw; (try dsimp only at hSw); go_simp) <;> with_reducible rfl
          try simp only [Act.put, List.setIfInBounds_toArray, List.set_cons_zero, List.set_cons_succ]
          refine wpAnyH_take (i := 3) (oi := { dst := some 66, op := Op.fieldAddr 94 (Operand.tmp 65) 3, type := 0, pos := _, after := _, guard := none }) (v := ?_) rfl (by kernel_rfl) (by kernel_rfl) (by kernel_rfl) (fun _ _ _ h => h) (Or.inl ⟨by rfl, ?_⟩) (by assumption) ?_
          rotate_left
          · (intro w hSw; (try dsimp only at hSw); go_simp) <;> with_reducible rfl
          try simp only [Act.put, List.setIfInBounds_toArray, List.set_cons_zero, List.set_cons_succ]
          refine wpAnyH_take (i := 5) (oi := { dst := some 68, op := Op.move (Operand.tmp 0), type := 22, pos := _, after := #[], guard := none }) (v := ?_) rfl (by kernel_rfl) (by kernel_rfl) (by kernel_rfl) (fun _ _ _ h => h) (Or.inl ⟨by rfl, ?_⟩) (by assumption) ?_
          rotate_left
          · (intro w hSw; (try dsimp only at hSw); go_simp) <;> with_reducible rfl
          try simp only [Act.put, List.setIfInBounds_toArray, List.set_cons_zero, List.set_cons_succ]
          refine wpAnyH_ready (rs := [4, 6]) (by kernel_rfl) (by simp) ?_
          refine AllReadyH.cons (o := { dst := some 67, op := Op.load 92 (Operand.tmp 66), type := 92, pos := _, after := _, guard := none }) rfl (fun K hK => ?_) (AllReadyH.cons (o := { dst := some 69, op := Op.call { callee := Callee.value (Operand.func 42), args := #[Operand.tmp 68], argTypes := #[22] }, type := 22, pos := _, after := _, guard := none }) rfl (fun K hK => ?_) AllReadyH.nil)
          · go_simp
            skip
            try go_simp
            clear hHeld
            refine hK.out _ _ ?_ (fun hHeld => ?_)
            · exact trivial
            clear hK K
            try simp only [Act.put, List.setIfInBounds_toArray, List.set_cons_zero, List.set_cons_succ]
            refine wpAnyH_ready (rs := [6]) (by kernel_rfl) (by simp) ?_
            refine AllReadyH.cons (o := { dst := some 69, op := Op.call { callee := Callee.value (Operand.func 42), args := #[Operand.tmp 68], argTypes := #[22] }, type := 22, pos := _, after := _, guard := none }) rfl (fun K hK => ?_) AllReadyH.nil
            go_simp
            go_at_call 42
            refine (clone_any fa fc n first _ (HR.out _ HBd.out) HN.out.1).mono ?_
            rintro ex W1 ⟨co, cc, rfl, ho1, hb1⟩
            have HO1 : Hid _ := ho1
            have HB1 : Hid _ := hb1
            have q31 : W1.cell? ⟨(w.heap.size + 2), 3, none⟩ = some lv := (HSd.out.later HB1.out).q3
            clear ho1 hb1
            try go_simp
            clear hHeld
            refine hK.out _ _ ?_ (fun hHeld => ?_)
            · exact trivial
            clear hK K
            try simp only [Act.put, List.setIfInBounds_toArray, List.set_cons_zero, List.set_cons_succ]
            refine wpAnyH_take (i := 7) (oi := { dst := some 70, op := Op.build 97 #[(1, Operand.tmp 69)], type := 97, pos := _, after := _, guard := none }) (v := ?_) rfl (by kernel_rfl) (by kernel_rfl) (by kernel_rfl) (fun _ _ _ h => h) (Or.inl ⟨by rfl, ?_⟩) (by assumption) ?_
            rotate_left
            · (intro w hSw; (try dsimp only at hSw); go_simp) <;> with_reducible rfl
            try simp only [Act.put, List.setIfInBounds_toArray, List.set_cons_zero, List.set_cons_succ]
            refine wpAnyH_ready (rs := [8]) (by kernel_rfl) (by simp) ?_
            refine AllReadyH.cons (o := { dst := some 71, op := Op.buildSlice 92 1 #[(0, Operand.tmp 70)], type := 92, pos := _, after := _, guard := none }) rfl (fun K hK => ?_) AllReadyH.nil
            go_simp
            have HX1 : Hid (Below W1.heap.size W1 (W1.alloc (.cells #[.int .u16 0, .slice co n cc, .int .i64 0] 97))) := (Below.refl _ _).alloc (Nat.le_refl _) _
            obtain ⟨va, vcn, W3, happ, HO3, HG3⟩ := sb_append (HSd.out.later HB1.out) (co := co) (cc := cc) HK.out.1 HBw.out HB1.out HBd.out
            have HP3 : Hid _ := HSd.out.add HB1.out HO1.out HN.out.1 HN.out.2.2 HX1.out HG3 HO3
            have q32 : (W1.alloc (.cells #[.int .u16 0, .slice co n cc, .int .i64 0] 97)).cell? ⟨(w.heap.size + 2), 3, none⟩ = some lv := ((HSd.out.later HB1.out).later HX1.out).q3
            have q33 : W3.cell? ⟨(w.heap.size + 2), 3, none⟩ = some lv := sb_kept (HSd.out.later HB1.out) HX1.out HG3 3 rfl
            have f33 : W3.frozen? ⟨(w.heap.size + 2), 3, none⟩ = false := sb_free (HSd.out.later HB1.out) HX1.out HG3 3
            clear HG3 HO3
            try go_simp
            clear hHeld
            refine hK.out _ _ ?_ (fun hHeld => ?_)
            · exact trivial
            clear hK K
            try simp only [Act.put, List.setIfInBounds_toArray, List.set_cons_zero, List.set_cons_succ]
            refine wpAnyH_ready (rs := [9]) (by kernel_rfl) (by simp) ?_
            refine AllReadyH.cons (o := { dst := some 72, op := Op.call { callee := Callee.builtin Builtin.append, args := #[Operand.tmp 67, Operand.tmp 71], argTypes := #[92, 92] }, type := 92, pos := _, after := _, guard := none }) rfl (fun K hK => ?_) AllReadyH.nil
            refine upon_append (.tmp 67) (.tmp 71) 92 rfl rfl rfl rfl happ _ ?_
            try go_simp
            clear hHeld
            refine hK.out _ _ ?_ (fun hHeld => ?_)
            · exact trivial
            clear hK K
            try simp only [Act.put, List.setIfInBounds_toArray, List.set_cons_zero, List.set_cons_succ]
            refine wpAnyH_take (i := 10) (oi := { dst := some 73, op := Op.nilCheck (Operand.tmp 63), type := 0, pos := _, after := _, guard := none }) (v := ?_) rfl (by kernel_rfl) (by kernel_rfl) (by kernel_rfl) (fun _ _ _ h => h) (Or.inl ⟨by rfl, ?_⟩) (by assumption) ?_
            rotate_left
            · (intro w hSw; (try dsimp only at hSw); go_simp) <;> with_reducible rfl
            try simp only [Act.put, List.setIfInBounds_toArray, List.set_cons_zero, List.set_cons_succ]
            refine wpAnyH_take (i := 11) (oi := { dst := some 74, op := Op.fieldAddr 94 (Operand.tmp 73) 3, type := 0, pos := _, after := _, guard := none }) (v := ?_) rfl (by kernel_rfl) (by kernel_rfl) (by kernel_rfl) (fun _ _ _ h => h) (Or.inl ⟨by rfl, ?_⟩) (by assumption) ?_
            rotate_left
            · (intro w hSw; (try dsimp only at hSw); go_simp) <;> with_reducible rfl
            try simp only [Act.put, List.setIfInBounds_toArray, List.set_cons_zero, List.set_cons_succ]
            refine wpAnyH_ready (rs := [12]) (by kernel_rfl) (by simp) ?_
            refine AllReadyH.cons (o := { dst := none, op := Op.store 92 (Operand.tmp 74) (Operand.tmp 72), type := 0, pos := _, after := _, guard := none }) rfl (fun K hK => ?_) AllReadyH.nil
            go_simp
            skip
            try go_simp
            clear hHeld
            refine hK.out _ _ ?_ (fun hHeld => ?_)
            · exact trivial
            clear hK K
            try simp only [Act.put, List.setIfInBounds_toArray, List.set_cons_zero, List.set_cons_succ]
            refine wpAnyH_done (by kernel_rfl) ?_ _
            clear hHeld happ
            have HRl : Hid (∃ (k' : Nat) (lv : Value) (L2 : List Lv), k' ≤ m1 ∧ Value.int .i64 ((k : Int) + 1) = .int .i64 (k' : Int) ∧ Hid (Sb (W3.setCell ⟨(w.heap.size + 2), 3, none⟩ (.slice va (L.length + 1) vcn)) w.heap.size (w.heap.size + 2) oa m oc (mask (owOf l m)) w.heap.size (ahOf l m) lv n L2 (w.heap.size + 1) ∧ L2.length = k' ∧ (∀ (j : Nat) (v : Lv), L2[j]? = some v → v.D = 0 ∧ v.bs = first ∧ v.x = 0) ∧ Below w.heap.size w (W3.setCell ⟨(w.heap.size + 2), 3, none⟩ (.slice va (L.length + 1) vcn)))) := by
              refine ⟨k + 1, (.slice va (L.length + 1) vcn), L ++ [⟨0, 0, co, cc, first⟩], HKm.out, by simp, HP3.out.1, by rw [List.length_append, HJ.out.2.1]; rfl, fun j v hv => ?_, HBd.out.trans HP3.out.2⟩
              rcases Nat.lt_or_ge j L.length with h1 | h1
              · rw [List.getElem?_append_left h1] at hv; exact HJ.out.2.2.1 j v hv
              · rw [List.getElem?_append_right h1] at hv
                have hj0 := (List.getElem?_eq_some_iff.1 hv).1
                simp at hj0
                rw [hj0] at hv
                simp at hv
                subst hv
                exact ⟨rfl, rfl, rfl⟩
            go_wp2
            go_roundw
            case rel => exact HRl.out
            case measure => simp [intOf]; omega
          · go_simp
            go_at_call 42
            refine (clone_any fa fc n first _ (HR.out _ HBd.out) HN.out.1).mono ?_
            rintro ex W1 ⟨co, cc, rfl, ho1, hb1⟩
            have HO1 : Hid _ := ho1
            have HB1 : Hid _ := hb1
            have q31 : W1.cell? ⟨(w.heap.size + 2), 3, none⟩ = some lv := (HSd.out.later HB1.out).q3
            clear ho1 hb1
            try go_simp
            clear hHeld
            refine hK.out _ _ ?_ (fun hHeld => ?_)
            · exact trivial
            clear hK K
            try simp only [Act.put, List.setIfInBounds_toArray, List.set_cons_zero, List.set_cons_succ]
            refine wpAnyH_take (i := 7) (oi := { dst := some 70, op := Op.build 97 #[(1, Operand.tmp 69)], type := 97, pos := _, after := _, guard := none }) (v := ?_) rfl (by kernel_rfl) (by kernel_rfl) (by kernel_rfl) (fun _ _ _ h => h) (Or.inl ⟨by rfl, ?_⟩) (by assumption) ?_
            rotate_left
            · (intro w hSw; (try dsimp only at hSw); go_simp) <;> with_reducible rfl
            try simp only [Act.put, List.setIfInBounds_toArray, List.set_cons_zero, List.set_cons_succ]
            refine wpAnyH_ready (rs := [4, 8]) (by kernel_rfl) (by simp) ?_
            refine AllReadyH.cons (o := { dst := some 67, op := Op.load 92 (Operand.tmp 66), type := 92, pos := _, after := _, guard := none }) rfl (fun K hK => ?_) (AllReadyH.cons (o := { dst := some 71, op := Op.buildSlice 92 1 #[(0, Operand.tmp 70)], type := 92, pos := _, after := _, guard := none }) rfl (fun K hK => ?_) AllReadyH.nil)
            · go_simp
              skip
              try go_simp
              clear hHeld
              refine hK.out _ _ ?_ (fun hHeld => ?_)
              · exact trivial
              clear hK K
              try simp only [Act.put, List.setIfInBounds_toArray, List.set_cons_zero, List.set_cons_succ]
              refine wpAnyH_ready (rs := [8]) (by kernel_rfl) (by simp) ?_
              refine AllReadyH.cons (o := { dst := some 71, op := Op.buildSlice 92 1 #[(0, Operand.tmp 70)], type := 92, pos := _, after := _, guard := none }) rfl (fun K hK => ?_) AllReadyH.nil
              go_simp
              have HX1 : Hid (Below W1.heap.size W1 (W1.alloc (.cells #[.int .u16 0, .slice co n cc, .int .i64 0] 97))) := (Below.refl _ _).alloc (Nat.le_refl _) _
              obtain ⟨va, vcn, W3, happ, HO3, HG3⟩ := sb_append (HSd.out.later HB1.out) (co := co) (cc := cc) HK.out.1 HBw.out HB1.out HBd.out
              have HP3 : Hid _ := HSd.out.add HB1.out HO1.out HN.out.1 HN.out.2.2 HX1.out HG3 HO3
              have q32 : (W1.alloc (.cells #[.int .u16 0, .slice co n cc, .int .i64 0] 97)).cell? ⟨(w.heap.size + 2), 3, none⟩ = some lv := ((HSd.out.later HB1.out).later HX1.out).q3
              have q33 : W3.cell? ⟨(w.heap.size + 2), 3, none⟩ = some lv := sb_kept (HSd.out.later HB1.out) HX1.out HG3 3 rfl
              have f33 : W3.frozen? ⟨(w.heap.size + 2), 3, none⟩ = false := sb_free (HSd.out.later HB1.out) HX1.out HG3 3
              clear HG3 HO3
              try go_simp
              clear hHeld
              refine hK.out _ _ ?_ (fun hHeld => ?_)
              · exact trivial
              clear hK K
              try simp only [Act.put, List.setIfInBounds_toArray, List.set_cons_zero, List.set_cons_succ]
              refine wpAnyH_ready (rs := [9]) (by kernel_rfl) (by simp) ?_
              refine AllReadyH.cons (o := { dst := some 72, op := Op.call { callee := Callee.builtin Builtin.append, args := #[Operand.tmp 67, Operand.tmp 71], argTypes := #[92, 92] }, type := 92, pos := _, after := _, guard := none }) rfl (fun K hK => ?_) AllReadyH.nil
              refine upon_append (.tmp 67) (.tmp 71) 92 rfl rfl rfl rfl happ _ ?_
              try go_simp
              clear hHeld
              refine hK.out _ _ ?_ (fun hHeld => ?_)
              · exact trivial
              clear hK K
              try simp only [Act.put, List.setIfInBounds_toArray, List.set_cons_zero, List.set_cons_succ]
              refine wpAnyH_take (i := 10) (oi := { dst := some 73, op := Op.nilCheck (Operand.tmp 63), type := 0, pos := _, after := _, guard := none }) (v := ?_) rfl (by kernel_rfl) (by kernel_rfl) (by kernel_rfl) (fun _ _ _ h => h) (Or.inl ⟨by rfl, ?_⟩) (by assumption) ?_
              rotate_left
              · (intro w hSw; (try dsimp only at hSw); go_simp) <;> with_reducible rfl
              try simp only [Act.put, List.setIfInBounds_toArray, List.set_cons_zero, List.set_cons_succ]
              refine wpAnyH_take (i := 11) (oi := { dst := some 74, op := Op.fieldAddr 94 (Operand.tmp 73) 3, type := 0, pos := _, after := _, guard := none }) (v := ?_) rfl (by kernel_rfl) (by kernel_rfl) (by kernel_rfl) (fun _ _ _ h => h) (Or.inl ⟨by rfl, ?_⟩) (by assumption) ?_
              rotate_left
              · (intro w hSw; (try dsimp only at hSw); go_simp) <;> with_reducible rfl
              try simp only [Act.put, List.setIfInBounds_toArray, List.set_cons_zero, List.set_cons_succ]
              refine wpAnyH_ready (rs := [12]) (by kernel_rfl) (by simp) ?_
              refine AllReadyH.cons (o := { dst := none, op := Op.store 92 (Operand.tmp 74) (Operand.tmp 72), type := 0, pos := _, after := _, guard := none }) rfl (fun K hK => ?_) AllReadyH.nil
              go_simp
              skip
              try go_simp
              clear hHeld
              refine hK.out _ _ ?_ (fun hHeld => ?_)
              · exact trivial
              clear hK K
              try simp only [Act.put, List.setIfInBounds_toArray, List.set_cons_zero, List.set_cons_succ]
              refine wpAnyH_done (by kernel_rfl) ?_ _
              clear hHeld happ
              have HRl : Hid (∃ (k' : Nat) (lv : Value) (L2 : List Lv), k' ≤ m1 ∧ Value.int .i64 ((k : Int) + 1) = .int .i64 (k' : Int) ∧ Hid (Sb (W3.setCell ⟨(w.heap.size + 2), 3, none⟩ (.slice va (L.length + 1) vcn)) w.heap.size (w.heap.size + 2) oa m oc (mask (owOf l m)) w.heap.size (ahOf l m) lv n L2 (w.heap.size + 1) ∧ L2.length = k' ∧ (∀ (j : Nat) (v : Lv), L2[j]? = some v → v.D = 0 ∧ v.bs = first ∧ v.x = 0) ∧ Below w.heap.size w (W3.setCell ⟨(w.heap.size + 2), 3, none⟩ (.slice va (L.length + 1) vcn)))) := by
                refine ⟨k + 1, (.slice va (L.length + 1) vcn), L ++ [⟨0, 0, co, cc, first⟩], HKm.out, by simp, HP3.out.1, by rw [List.length_append, HJ.out.2.1]; rfl, fun j v hv => ?_, HBd.out.trans HP3.out.2⟩
                rcases Nat.lt_or_ge j L.length with h1 | h1
                · rw [List.getElem?_append_left h1] at hv; exact HJ.out.2.2.1 j v hv
                · rw [List.getElem?_append_right h1] at hv
                  have hj0 := (List.getElem?_eq_some_iff.1 hv).1
                  simp at hj0
                  rw [hj0] at hv
                  simp at hv
                  subst hv
                  exact ⟨rfl, rfl, rfl⟩
              go_wp2
              go_roundw
              case rel => exact HRl.out
              case measure => simp [intOf]; omega
            · go_simp
              have HX1 : Hid (Below W1.heap.size W1 (W1.alloc (.cells #[.int .u16 0, .slice co n cc, .int .i64 0] 97))) := (Below.refl _ _).alloc (Nat.le_refl _) _
              obtain ⟨va, vcn, W3, happ, HO3, HG3⟩ := sb_append (HSd.out.later HB1.out) (co := co) (cc := cc) HK.out.1 HBw.out HB1.out HBd.out
              have HP3 : Hid _ := HSd.out.add HB1.out HO1.out HN.out.1 HN.out.2.2 HX1.out HG3 HO3
              have q32 : (W1.alloc (.cells #[.int .u16 0, .slice co n cc, .int .i64 0] 97)).cell? ⟨(w.heap.size + 2), 3, none⟩ = some lv := ((HSd.out.later HB1.out).later HX1.out).q3
              have q33 : W3.cell? ⟨(w.heap.size + 2), 3, none⟩ = some lv := sb_kept (HSd.out.later HB1.out) HX1.out HG3 3 rfl
              have f33 : W3.frozen? ⟨(w.heap.size + 2), 3, none⟩ = false := sb_free (HSd.out.later HB1.out) HX1.out HG3 3
              clear HG3 HO3
              try go_simp
              clear hHeld
              refine hK.out _ _ ?_ (fun hHeld => ?_)
              · exact trivial
              clear hK K
              try simp only [Act.put, List.setIfInBounds_toArray, List.set_cons_zero, List.set_cons_succ]
              refine wpAnyH_ready (rs := [4]) (by kernel_rfl) (by simp) ?_
              refine AllReadyH.cons (o := { dst := some 67, op := Op.load 92 (Operand.tmp 66), type := 92, pos := _, after := _, guard := none }) rfl (fun K hK => ?_) AllReadyH.nil
              go_simp
              skip
              try go_simp
              clear hHeld
              refine hK.out _ _ ?_ (fun hHeld => ?_)
              · exact trivial
              clear hK K
              try simp only [Act.put, List.setIfInBounds_toArray, List.set_cons_zero, List.set_cons_succ]
              refine wpAnyH_ready (rs := [9]) (by kernel_rfl) (by simp) ?_
              refine AllReadyH.cons (o := { dst := some 72, op := Op.call { callee := Callee.builtin Builtin.append, args := #[Operand.tmp 67, Operand.tmp 71], argTypes := #[92, 92] }, type := 92, pos := _, after := _, guard := none }) rfl (fun K hK => ?_) AllReadyH.nil
              refine upon_append (.tmp 67) (.tmp 71) 92 rfl rfl rfl rfl happ _ ?_
              try go_simp
              clear hHeld
              refine hK.out _ _ ?_ (fun hHeld => ?_)
              · exact trivial
              clear hK K
              try simp only [Act.put, List.setIfInBounds_toArray, List.set_cons_zero, List.set_cons_succ]
              refine wpAnyH_take (i := 10) (oi := { dst := some 73, op := Op.nilCheck (Operand.tmp 63), type := 0, pos := _, after := _, guard := none }) (v := ?_) rfl (by kernel_rfl) (by kernel_rfl) (by kernel_rfl) (fun _ _ _ h => h) (Or.inl ⟨by rfl, ?_⟩) (by assumption) ?_
              rotate_left
              · (intro w hSw; (try dsimp only at hSw); go_simp) <;> with_reducible rfl
              try simp only [Act.put, List.setIfInBounds_toArray, List.set_cons_zero, List.set_cons_succ]
              refine wpAnyH_take (i := 11) (oi := { dst := some 74, op := Op.fieldAddr 94 (Operand.tmp 73) 3, type := 0, pos := _, after := _, guard := none }) (v := ?_) rfl (by kernel_rfl) (by kernel_rfl) (by kernel_rfl) (fun _ _ _ h => h) (Or.inl ⟨by rfl, ?_⟩) (by assumption) ?_
              rotate_left
              · (intro w hSw; (try dsimp only at hSw); go_simp) <;> with_reducible rfl
              try simp only [Act.put, List.setIfInBounds_toArray, List.set_cons_zero, List.set_cons_succ]
              refine wpAnyH_ready (rs := [12]) (by kernel_rfl) (by simp) ?_
              refine AllReadyH.cons (o := { dst := none, op := Op.store 92 (Operand.tmp 74) (Operand.tmp 72), type := 0, pos := _, after := _, guard := none }) rfl (fun K hK => ?_) AllReadyH.nil
              go_simp
              skip
              try go_simp
              clear hHeld
              refine hK.out _ _ ?_ (fun hHeld => ?_)
              · exact trivial
              clear hK K
              try simp only [Act.put, List.setIfInBounds_toArray, List.set_cons_zero, List.set_cons_succ]
              refine wpAnyH_done (by kernel_rfl) ?_ _
              clear hHeld happ
              have HRl : Hid (∃ (k' : Nat) (lv : Value) (L2 : List Lv), k' ≤ m1 ∧ Value.int .i64 ((k : Int) + 1) = .int .i64 (k' : Int) ∧ Hid (Sb (W3.setCell ⟨(w.heap.size + 2), 3, none⟩ (.slice va (L.length + 1) vcn)) w.heap.size (w.heap.size + 2) oa m oc (mask (owOf l m)) w.heap.size (ahOf l m) lv n L2 (w.heap.size + 1) ∧ L2.length = k' ∧ (∀ (j : Nat) (v : Lv), L2[j]? = some v → v.D = 0 ∧ v.bs = first ∧ v.x = 0) ∧ Below w.heap.size w (W3.setCell ⟨(w.heap.size + 2), 3, none⟩ (.slice va (L.length + 1) vcn)))) := by
                refine ⟨k + 1, (.slice va (L.length + 1) vcn), L ++ [⟨0, 0, co, cc, first⟩], HKm.out, by simp, HP3.out.1, by rw [List.length_append, HJ.out.2.1]; rfl, fun j v hv => ?_, HBd.out.trans HP3.out.2⟩
                rcases Nat.lt_or_ge j L.length with h1 | h1
                · rw [List.getElem?_append_left h1] at hv; exact HJ.out.2.2.1 j v hv
                · rw [List.getElem?_append_right h1] at hv
                  have hj0 := (List.getElem?_eq_some_iff.1 hv).1
                  simp at hj0
                  rw [hj0] at hv
                  simp at hv
                  subst hv
                  exact ⟨rfl, rfl, rfl⟩
              go_wp2
              go_roundw
              case rel => exact HRl.out
              case measure => simp [intOf]; omega

        · have nn9 : decide ((k : Int) < (m1 : Int)) = false := decide_eq_false (by omega)
          have HFi : Hid (∃ gv vc, lv = .slice (some ⟨gv, 0, none⟩) (m + 1) vc ∧ L.length = m + 1) := by
            have h6 : L.length = m + 1 := by rw [HJ.out.2.1]; omega
            rcases HJ.out.1.lvs.2 with ⟨_, h0⟩ | ⟨g, cap, cur, hv, _⟩
            · exfalso; omega
            · rw [h6] at hv; exact ⟨g, cap, hv, h6⟩
          obtain ⟨gv, vc, hlv, h6⟩ := HFi.out
          subst hlv
          have HWh : Hid _ := HJ.out.1.whole h6
          go_wp2
          go_ret
          exact ⟨_, _, gv, vc, _, L, rfl, HJ.out.2.2.2, HWh.out, HJ.out.2.2.1⟩
end Go.Proofs.Ytjkoambfecmglaa
