import Derived.Test.YtefgdhoapmikhaaDoorRtQ
namespace Go.Proofs.YtefgdhoapmikhaaDoor
open Go.RowKit
open Go.Lib
set_option linter.unusedVariables false
set_option linter.unusedSimpArgs false
set_option maxRecDepth 100000
theorem append_make_equ {P : Program} (w : World) (t u k ty e : TypeId) (i : TypeInfo) (ht : P.underlying t = some (.slice e)) (hu : P.underlying u = some .string) (hk : P.underlying k = some (.int .u32)) (hi : P.info? e = some i) (hz : i.zero = some (.int .u8 0))
    (hsize : i.size = 1) (hby : i.bytes = 1) (b : Option Addr) (sLen sCap m : Nat) (hm : m ≤ 2097152) (hl : sLen + m ≤ 140737488355328) :
    (Builtin.append_ #[t, k] ty #[.slice b sLen sCap, .int .u32 (m : Int)]).run P w = (Builtin.append_ #[t, u] ty #[.slice b sLen sCap, .string (zstr m)]).run P w := by
  have hw : IntKind.i64.wrap (m : Int) = (m : Int) := by rw [IntKind.wrap_i64]; omega
  have hn0 : ¬ ((m : Int) < 0) := by omega
  have hn1 : ¬ ((281474976710656 : Int) < (m : Int)) := by omega
  have hf := fun W => run_firstCells_string (P := P) W 1 (zstr m)
  rw [zstr_size] at hf
  have hc : strCells (zstr 0) = [] := by rw [zstr_cells]; rfl
  by_cases h0 : m = 0
  · subst h0
    have hw0 : IntKind.i64.wrap 0 = 0 := by decide
    rw [hc] at hf
    by_cases hroom : sLen ≤ sCap
    · simp [Builtin.append_, run_underlying ht, run_underlying hu, run_underlying hk, sizeOf, typeInfo, hi, hsize, hby, Builtin.lenOf, hroom, hf, zstr_size, asInt, asIntOf, hw0]
    · have h48 := growslice_fits (need := sLen) (old := sCap) (bytes := 1) (by omega) (by omega)
      have h48' : ¬ (281474976710656 < Builtin.nextslicecap sLen sCap) := by omega
      have h63' : ¬ (9223372036854775807 < (sLen : Int)) := by omega
      simp [Builtin.append_, run_underlying ht, run_underlying hu, run_underlying hk, sizeOf, typeInfo, zeroValue, hi, hz, hsize, hby, Builtin.lenOf, hroom, hf, zstr_size, asInt, asIntOf, hw0, h48', h63', Question.forced]
  · have hm0 : ¬ ((m : Int) ≤ 0) := by omega
    by_cases hroom : sLen + m ≤ sCap
    · simp [Builtin.append_, run_underlying ht, run_underlying hu, run_underlying hk, sizeOf, typeInfo, zeroValue, hi, hz, hsize, hby, Builtin.lenOf, hroom, hf, zstr_size, asInt, asIntOf, hw, hn0, hn1, h0, Value.cells, zero_cells]
    · have h48 := growslice_fits (need := sLen + m) (old := sCap) (bytes := 1) (by omega) (by omega)
      have h48' : ¬ (281474976710656 < Builtin.nextslicecap (sLen + m) sCap) := by omega
      have h63' : ¬ (9223372036854775807 < ((sLen : Int) + (m : Int))) := by omega
      simp [Builtin.append_, run_underlying ht, run_underlying hu, run_underlying hk, sizeOf, typeInfo, zeroValue, hi, hz, hsize, hby, Builtin.lenOf, hroom, hf, zstr_size, asInt, asIntOf, hw, hn0, hn1, h0, h48', h63', Question.forced, Value.cells, zero_cells]
theorem wpList_append_two_makeu {P : Program} (w : World) {ops : Array Oper} {rest : List Oper} {o : Oper} {a : Act} {Q : Exit → Act → World → Prop} (hgd : o.guard = none) (sl x : Operand) (t u k : TypeId)
    (ho : o.op = .call { callee := .builtin .append, args := #[sl, x], argTypes := #[t, k] })
    (base : Nat) (e : TypeId) (i : TypeInfo) (ht : P.underlying t = some (.slice e)) (hu : P.underlying u = some .string) (hk : P.underlying k = some (.int .u32)) (hi : P.info? e = some i) (hz : i.zero = some (.int .u8 0))
    (hsize : i.size = 1) (hby : i.bytes = 1) (v : Value) (n : Nat) (xs : List Value) (hs : a.eval sl = v) (hown : w.ownsRow base e 1 v n xs)
    (m : Nat) (hx : a.eval x = .int .u32 (m : Int)) (hm : m ≤ 2097152) (hbytes : n + m ≤ 140737488355328) (hbase : base ≤ w.heap.size)
    (h : ∀ ao cap w', w'.ownsRow base e 1 (.slice ao (n + m) cap) (n + m) (xs ++ (List.replicate m 0).map bv) → w.grownBy w' v.ownBlock → Fresh w v (.slice ao (n + m) cap) → wpList P ops Q rest (a.put o.dst (.slice ao (n + m) cap)) w') : wpList P ops Q (o :: rest) a w := by
  obtain ⟨v', w', hr, h2, h3, h4⟩ := run_append_two_string (P := P) w base t u o.type e i ht hu hi hz hsize hby v n xs hown (zstr m) (by rw [zstr_size]; exact hbytes) hbase
  obtain ⟨ao0, cap0, rfl⟩ := owns_form hown
  rw [← append_make_equ w t u k o.type e i ht hu hk hi hz hsize hby ao0 n cap0 m hm hbytes] at hr
  rw [zstr_cells, zstr_size] at h2
  obtain ⟨ao, cap, rfl⟩ := owns_form h2
  refine wpList_plain hgd fun K hK => ?_
  unfold Oper.wp execOp
  simp only [ho, resolve, invoke, builtin, Sem.run_bind, Sem.run_pure, Result.andThen_ok, List.map_toArray, List.map_cons, List.map_nil, hs, hx, hr]
  exact hK _ _ (h ao cap w' h2 h3 h4)


theorem copyA (ao : Option Addr) (cap n : Nat) (m : List Nat) (w : World) (h : BRow w ao cap m) (hn : m.length = n) : Calls Tryd.prog 25 #[.slice ao n cap] w fun e w' => ∃ ao' cap', e = .returned (.slice ao' n cap') ∧ w'.ownsRow w.heap.size 5 1 (.slice ao' n cap') n (m.map bv) ∧ Below w.heap.size w w' := by
  subst hn
  rcases ao with _ | ad
  · obtain ⟨rfl, rfl⟩ := h.nil rfl
    refine (copy_none w).mono ?_
    rintro e w' ⟨rfl, rfl⟩
    exact ⟨none, 0, rfl, World.ownsRow_nil _ _ _ _, Below.refl _ _⟩
  · refine (copy_some ad cap m w h).mono ?_
    rintro e w' ⟨v, rfl, ho, hb⟩
    obtain ⟨ao', cap', rfl⟩ := owns_form ho
    exact ⟨ao', cap', rfl, ho, hb⟩
/-- the first loop: pieces made to lie end to end -/
structure TI (w W : World) (fl ck off : Nat) (d : Value) (k : Nat) (P0 : List Pc) (Q : List (Pc × List Nat)) (L : Nat) (wo : Option Addr) (wc : Nat) (qo : Option Addr) (qn qc : Nat) : Prop where
  tl : Tl w W #[.int .u16 (fl : Int), .int .u16 0, .int .u64 (ck : Int), .int .u64 (off : Int), .int .u64 (L : Int), d] #[.int .u32 0, .bool false, .int .u64 0, .slice qo qn qc, .slice none 0 0] (.slice wo L wc) (rowQ Q) (.slice qo qn qc) (Q.map (·.1)) (Q.map fun q => (q.1.ao, q.1.cap, q.2))
  len : (rowQ Q).length = L
  qn_ : Q.length = qn
  dn : ∀ q ∈ Q, q.2.length = q.1.n ∧ q.1.ok
  pie : off ≤ 9223372036854775808 → pieB off L 0 (Q.map (·.1)) = true
  le : L ≤ 1000 * ((P0.take k).map fun o => o.n + 5).sum
  ql : qn ≤ k
theorem sum_take (P0 : List Pc) (k : Nat) : ((P0.take k).map fun o => o.n + 5).sum ≤ (P0.map fun o => o.n + 5).sum := by
  conv => rhs; rw [← List.take_append_drop k P0]
  rw [List.map_append, List.sum_append]; omega
theorem sum_step (P0 : List Pc) (k : Nat) (hk : k < P0.length) : ((P0.take (k + 1)).map fun o => o.n + 5).sum = ((P0.take k).map fun o => o.n + 5).sum + (P0[k].n + 5) := by
  rw [List.take_succ_eq_append_getElem hk, List.map_append, List.sum_append]; simp
theorem rowQ_snoc (Q : List (Pc × List Nat)) (q : Pc × List Nat) : rowQ (Q ++ [q]) = rowQ Q ++ qL1 q := by simp [rowQ]
theorem TI.new (w : World) (fl ck off : Nat) (d : Value) (P0 : List Pc) : TI w ((w.alloc (.cells #[.int .u16 (fl : Int), .int .u16 0, .int .u64 (ck : Int), .int .u64 (off : Int), .int .u64 0, d] 29)).alloc (.cells #[.int .u32 0, .bool false, .int .u64 0, .slice none 0 0, .slice none 0 0] 34)) fl ck off d 0 P0 [] 0 none 0 none 0 0 := by
  have h := mkb2 w #[.int .u16 (fl : Int), .int .u16 0, .int .u64 (ck : Int), .int .u64 (off : Int), .int .u64 0, d] #[.int .u32 0, .bool false, .int .u64 0, .slice none 0 0, .slice none 0 0] 29 34
  exact ⟨⟨h.bel, h.size, h.a, h.b, World.ownsRow_nil _ _ _ _, World.ownsRow_nil _ _ _ _, by simp [rowQ], by simp⟩, rfl, rfl, by simp, fun _ => by simp [pieB], by simp, Nat.le_refl _⟩
theorem newsP (W : World) (p : Pc) (t : TypeId) : ∀ j u, p.cells.toList[j]? = some u → (W.alloc (.cells p.cells t)).cell? ((⟨W.heap.size, 0, none⟩ : Addr).add j) = some u := by
  intro j u hj
  rw [add_plain, Nat.zero_add, blk_at (heap_new W _)]
  simpa using hj
theorem pc_one (p : Pc) : ∀ u ∈ p.cells.toList, u.oneCell' = true := by
  intro u hu
  simp [Pc.cells] at hu
  rcases hu with rfl | rfl | rfl | rfl <;> rfl
theorem brow_own {W : World} {B : Nat} {ao : Option Addr} {cap n : Nat} {l : List Nat} (h : W.ownsRow B 5 1 (.slice ao n cap) n (l.map bv)) (hn : l.length = n) (hlt : ∀ x ∈ l, x < 256) (hl : l.length ≤ 140737488351232) : BRow W ao cap l := by
  subst hn
  obtain ⟨ao', cap', hv, hb⟩ := BRow.own h hlt hl
  simp only [Value.slice.injEq] at hv
  obtain ⟨rfl, _, rfl⟩ := hv
  exact hb
theorem TI_zero {w wr W : World} {fl ck off : Nat} {d : Value} {k : Nat} {P0 : List Pc} {Q : List (Pc × List Nat)} {L : Nat} {wo wo6 : Option Addr} {wc wc6 : Nat} {qo : Option Addr} {qn qc n : Nat} {ql : List Nat} {x : Option Addr × Nat × List Nat} (h : TI w wr fl ck off d k P0 Q L wo wc qo qn qc)
    (t : Tl w W #[.int .u16 (fl : Int), .int .u16 0, .int .u64 (ck : Int), .int .u64 (off : Int), .int .u64 (L : Int), d] #[.int .u32 0, .bool false, .int .u64 0, .slice qo qn qc, .slice none 0 0] (.slice wo6 (L + n) wc6) (rowQ Q ++ ql) (.slice qo qn qc) (Q.map (·.1)) ((Q.map fun q => (q.1.ao, q.1.cap, q.2)) ++ [x]))
    (hz : n = 0) (hql : ql.length = n) (hle : ((P0.take k).map fun o => o.n + 5).sum ≤ ((P0.take (k + 1)).map fun o => o.n + 5).sum) : TI w W fl ck off d (k + 1) P0 Q (L + n) wo6 wc6 qo qn qc := by
  subst hz
  obtain rfl : ql = [] := List.eq_nil_of_length_eq_zero hql
  rw [List.append_nil] at t
  exact ⟨t.fewer (fun q hq => List.mem_append_left _ hq), h.len, h.qn_, h.dn, h.pie, by have := h.le; show L ≤ _; omega, Nat.le_succ_of_le h.ql⟩
theorem TI_push {w wr W : World} {fl ck off : Nat} {d : Value} {k : Nat} {P0 : List Pc} {Q : List (Pc × List Nat)} {L : Nat} {wo wo6 : Option Addr} {wc wc6 : Nat} {qo qo' : Option Addr} {qn qc qc' n x : Nat} {ql dl : List Nat} {p : Pc} (h : TI w wr fl ck off d k P0 Q L wo wc qo qn qc)
    (t : Tl w W #[.int .u16 (fl : Int), .int .u16 0, .int .u64 (ck : Int), .int .u64 (off : Int), .int .u64 ((L + n : Nat) : Int), d] #[.int .u32 0, .bool false, .int .u64 0, .slice qo' (qn + 1) qc', .slice none 0 0] (.slice wo6 (L + n) wc6) (rowQ Q ++ ql) (.slice qo' (qn + 1) qc') ((Q.map (·.1)) ++ [p]) ((Q.map fun q => (q.1.ao, q.1.cap, q.2)) ++ [(p.ao, p.cap, dl)]))
    (hq1 : qL1 (p, dl) = ql) (hql : ql.length = n) (hdl : dl.length = p.n) (hok : p.ok) (hpb : off ≤ 9223372036854775808 → pcB p = true ∧ p.off = off + L) (hln : p.ln = n) (hs : ((P0.take (k + 1)).map fun o => o.n + 5).sum = ((P0.take k).map fun o => o.n + 5).sum + x) (hn : n ≤ 1000 * x) : TI w W fl ck off d (k + 1) P0 (Q ++ [(p, dl)]) (L + n) wo6 wc6 qo' (qn + 1) qc' := by
  refine ⟨?_, by rw [rowQ_snoc, hq1, List.length_append, h.len, hql], by rw [List.length_append, h.qn_]; rfl, fun q hq => ?_, fun ho => ?_, by rw [hs]; have := h.le; omega, by have := h.ql; omega⟩
  · rw [List.map_append, List.map_append, rowQ_snoc, hq1]; exact t
  · rcases List.mem_append.1 hq with hq | hq
    · exact h.dn q hq
    · obtain rfl : q = (p, dl) := by simpa using hq
      exact ⟨hdl, hok⟩
  · rw [List.map_append]
    have h1 := pieB_snoc off (Q.map (·.1)) p 0 L (h.pie ho) (hpb ho).1 (hpb ho).2
    rw [hln] at h1
    exact h1
end Go.Proofs.YtefgdhoapmikhaaDoor
