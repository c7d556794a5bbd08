import Derived.Test.YtoabigjajnikcaaTI
import Derived.Deep.MidRow
namespace Go.Proofs.Ytoabigjajnikcaa
open Go.RowKit Go.Maps Go.Sort Go.Shelf
attribute [local go_sem] Oper.semAt_some
set_option linter.unusedVariables false
set_option linter.unusedSimpArgs false
set_option maxRecDepth 100000

theorem flat_at {α : Type} (f : α → List Value) (c : Nat) : ∀ (L : List α) (k : Nat) (e : α) (j : Nat), L[k]? = some e → (∀ e ∈ L, (f e).length = c) → j < c → (L.flatMap f)[k * c + j]? = (f e)[j]?
  | [], k, e, j, h, _, _ => by simp at h
  | x :: L, 0, e, j, h, hl, hj => by
    simp at h; subst h
    rw [List.flatMap_cons, List.getElem?_append_left (by rw [hl x (by simp)]; omega)]
    simp
  | x :: L, k + 1, e, j, h, hl, hj => by
    have h' : L[k]? = some e := by simpa using h
    rw [List.flatMap_cons, List.getElem?_append_right (by rw [hl x (by simp)]; rw [Nat.add_mul]; omega), hl x (by simp)]
    have : (k + 1) * c + j - c = k * c + j := by rw [Nat.add_mul]; omega
    rw [this]
    exact flat_at f c L k e j h' (fun e he => hl e (by simp [he])) hj
theorem own_range {w : World} {base T g n cap c : Nat} {α : Type} (f : α → List Value) (L : List α) (h : w.ownsRow base T c (.slice (some ⟨g, 0, none⟩) n cap) n (L.flatMap f)) (hl : ∀ e ∈ L, (f e).length = c) (hn : L.length = n) (k : Nat) (e : α) (he : L[k]? = some e) : w.rangeAt g (k * c) (f e) := by
  intro j v hv
  have hj : j < (f e).length := (List.getElem?_eq_some_iff.1 hv).1
  have hlen := hl e (List.mem_of_getElem? he)
  have hk : k < n := by rw [← hn]; exact (List.getElem?_eq_some_iff.1 he).1
  have hlt : k * c + j < n * c := by
    have : (k + 1) * c ≤ n * c := Nat.mul_le_mul_right _ hk
    rw [Nat.add_mul] at this; omega
  rw [h.cellAt (k * c + j) hlt, flat_at f c L k e j he hl (by omega)]
  exact hv
def iv (x : Int) : Value := .int .i64 x
def those (S : St) (r : Bool) : List Int := ids (S.L.filter (fun e => e.rd == r))
theorem infoI : (Try.prog.info? TIn).map (fun i => (i.zero, i.size, i.bytes)) = some (some (.int .i64 0), 1, 8) := by kernel_rfl
section
variable {w : World} {F : Nat → Prop} {b bm : Nat} {V : Int → Value} {S : St}
theorem ids_snoc (L : List En) (r : Bool) (k : Nat) (e : En) (hk : L[k]? = some e) : ids ((L.take (k + 1)).filter (fun e => e.rd == r)) = ids ((L.take k).filter (fun e => e.rd == r)) ++ (if e.rd == r then [e.id] else []) := by
  rw [List.take_add_one, hk, List.filter_append]
  unfold ids
  rw [List.map_append]
  congr 1
  by_cases h : (e.rd == r) = true
  · simp [h]
  · simp [h]
theorem numbers_not {po : Option Addr} (h : NoT w po) (r : Bool) : Calls Try.prog 33 #[.pointer po, .bool r] w fun r w' => r = .returned (.slice none 0 0) ∧ w' = w := by
  have hu := sorted_not h
  go_enter Try.func33, Try.ntmps33
  go_wp2_with (first | (go_at_call 44; refine hu.mono ?_; rintro e w9 ⟨rfl, hw9⟩; rw [hw9]; clear hw9))
  go_loopw [5, 11] (fun o i wr => o = .slice none 0 0 ∧ i = .int .i64 0 ∧ wr = w) (fun _ _ _ => 0)
  case atStart => exact ⟨rfl, rfl, rfl⟩
  case round =>
    obtain ⟨rfl, rfl, rfl⟩ := hrel
    go_wp2
    go_ret
    exact ⟨rfl, rfl⟩
set_option maxHeartbeats 4000000 in
theorem numbers_any (h : RT w F b bm V S) (r : Bool) : Calls Try.prog 33 #[.pointer (some ⟨b, 0, none⟩), .bool r] w fun e w' => ∃ v, e = .returned v ∧ w'.ownsRow w.heap.size TIn 1 v (those S r).length ((those S r).map iv) ∧ Below w.heap.size w w' := by
  obtain ⟨i0, hi, hz0, hz1, hz2⟩ := info_parts infoI
  have HSo : Hid _ := sorted_any h
  have hlen : S.L.length ≤ 64 := Nat.le_trans h.ok.len h.ok.m2
  have H : Hid _ := h
  obtain ⟨n, hn⟩ : ∃ n, S.L.length = n := ⟨_, rfl⟩
  have HN : Hid _ := hn
  rw [hn] at hlen HSo
  clear h hn
  go_enter Try.func33, Try.ntmps33
  go_wp2_with fail
  refine Calls.mono HSo.out ?_
  rintro r9 w1 ⟨v, rfl, hrow, hb⟩
  obtain ⟨ia, ic, rfl⟩ := owns_form9 hrow
  have HIr : Hid _ := hrow
  have HB1 : Hid _ := hb
  have HR1 : Hid _ := H.out.later hb
  have HIx : Hid (∀ k e, S.L[k]? = some e → ∃ g, ia = some ⟨g, 0, none⟩ ∧ g < w1.heap.size ∧ ∀ wr, Below w1.heap.size w1 wr → wr.rangeAt g (k * 9) (vcl (V e.id))) := fun k e he => by
    rcases HIr.out.2 with ⟨_, h0⟩ | ⟨g, cap, cur, hv, _, hg, _⟩
    · have h9 := (List.getElem?_eq_some_iff.1 he).1
      have h8 := HN.out
      omega
    · simp only [Value.slice.injEq] at hv
      obtain ⟨rfl, _, rfl⟩ := hv
      refine ⟨g, rfl, block_lt hg, fun wr hbl j v hv => ?_⟩
      rw [cell_block (hbl.block g (block_lt hg))]
      exact own_range _ S.L HIr.out (fun e he => vcl_len (HR1.out.pv e he)) HN.out k e he j v hv
  clear HSo hrow hb HIr
  go_wp2
  go_loopw [5, 11] (fun out i wr => ∃ k : Nat, k ≤ n ∧ i = .int .i64 (k : Int) ∧ Hid (wr.ownsRow w1.heap.size TIn 1 out (ids ((S.L.take k).filter (fun e => e.rd == r))).length ((ids ((S.L.take k).filter (fun e => e.rd == r))).map iv) ∧ Below w1.heap.size w1 wr)) (fun _ i _ => n - (intOf i).toNat)
  case atStart => exact ⟨0, Nat.zero_le _, rfl, ⟨rfl, .inl ⟨rfl, rfl⟩⟩, Below.refl _ _⟩
  case round =>
    obtain ⟨k, hk, rfl, HI⟩ := hrel
    by_cases hlt : k < n
    · obtain ⟨e, he⟩ : ∃ e, S.L[k]? = some e := ⟨_, List.getElem?_eq_getElem (by rw [HN.out]; exact hlt)⟩
      obtain ⟨g, rfl, hgl, hcell⟩ := HIx.out k e he
      have hem : e ∈ S.L := List.mem_of_getElem? he
      have hx := hcell wr HI.out.2
      obtain ⟨da, dc, aa, ac, hv, _, _⟩ := (HR1.out.pv e hem).ex
      rw [hv] at hx
      have HX : Hid (wr.rangeAt g (k * 9) (ecl e da dc aa ac)) := hx
      simp only [ecl] at HX
      have hkz : (k : Int) < (n : Int) := by omega
      clear hcell hx hv
      obtain ⟨vo, vc, hvo⟩ := owns_form9 HI.out.1
      subst hvo
      obtain ⟨m, hm⟩ : ∃ m, (ids ((S.L.take k).filter (fun e => e.rd == r))).length = m := ⟨_, rfl⟩
      have hmk : m ≤ k := by
        rw [← hm, ids, List.length_map]
        exact Nat.le_trans (List.length_filter_le _ _) (by rw [List.length_take]; omega)
      have HSn : Hid _ := ids_snoc S.L r k e he
      have HM : Hid _ := hm
      rw [hm] at HI ⊢
      have HBx : Hid (Below w1.heap.size w1 (wr.alloc (.cells #[.int .i64 e.id, .int .u16 e.rq.fl, .int .u16 e.rq.ty, .int .u64 e.rq.ck, .int .u64 e.rq.off, .int .u64 e.rq.len, .slice da e.rq.data.length dc, .bool e.rd, .slice aa e.an.length ac] TEn))) := HI.out.2.alloc HI.out.2.size _
      have HO1 : Hid ((wr.alloc (.cells #[.int .i64 e.id, .int .u16 e.rq.fl, .int .u16 e.rq.ty, .int .u64 e.rq.ck, .int .u64 e.rq.off, .int .u64 e.rq.len, .slice da e.rq.data.length dc, .bool e.rd, .slice aa e.an.length ac] TEn)).ownsRow w1.heap.size TIn 1 (.slice vo m vc) m ((ids ((S.L.take k).filter (fun e => e.rd == r))).map iv)) := HI.out.1.alloc _
      clear HI he hm
      by_cases hr : (e.rd == r) = true
      · rw [if_pos hr] at HSn
        have HO : Hid (((wr.alloc (.cells #[.int .i64 e.id, .int .u16 e.rq.fl, .int .u16 e.rq.ty, .int .u64 e.rq.ck, .int .u64 e.rq.off, .int .u64 e.rq.len, .slice da e.rq.data.length dc, .bool e.rd, .slice aa e.an.length ac] TEn)).alloc (.cells #[.int .i64 e.id] TIn)).ownsRow w1.heap.size TIn 1 (.slice vo m vc) m ((ids ((S.L.take k).filter (fun e => e.rd == r))).map iv)) := HO1.out.alloc _
        have HBw : Hid (Below w1.heap.size w1 ((wr.alloc (.cells #[.int .i64 e.id, .int .u16 e.rq.fl, .int .u16 e.rq.ty, .int .u64 e.rq.ck, .int .u64 e.rq.off, .int .u64 e.rq.len, .slice da e.rq.data.length dc, .bool e.rd, .slice aa e.an.length ac] TEn)).alloc (.cells #[.int .i64 e.id] TIn))) := HBx.out.alloc HBx.out.size _
        have HNw : Hid (∀ j u, ([iv e.id] : List Value)[j]? = some u → ((wr.alloc (.cells #[.int .i64 e.id, .int .u16 e.rq.fl, .int .u16 e.rq.ty, .int .u64 e.rq.ck, .int .u64 e.rq.off, .int .u64 e.rq.len, .slice da e.rq.data.length dc, .bool e.rd, .slice aa e.an.length ac] TEn)).alloc (.cells #[.int .i64 e.id] TIn)).cell? ((⟨wr.heap.size + 1, 0, none⟩ : Addr).add j) = some u) := fun j u hu => by
          have := heap_new (wr.alloc (.cells #[.int .i64 e.id, .int .u16 e.rq.fl, .int .u16 e.rq.ty, .int .u64 e.rq.ck, .int .u64 e.rq.off, .int .u64 e.rq.len, .slice da e.rq.data.length dc, .bool e.rd, .slice aa e.an.length ac] TEn)) (.cells #[.int .i64 e.id] TIn)
          rw [size1] at this
          rw [add_plain, Nat.zero_add, blk_at this]
          simpa [iv] using hu
        go_wp2_with (first | (refine wpList_load_mid rfl TEn _ rfl g (k * 9) rfl _ _ HX.out Try.underlying56 rfl infoEn ?_) | (at_builtin; refine wpList_append_lies _ rfl (.tmp 19) (.tmp 22) 28 rfl w1.heap.size TIn i0 (.int .i64 0) 1 8 Try.underlying28 hi hz0 hz1 hz2 rfl (by omega) (.slice vo m vc) m _ rfl HO.out ⟨wr.heap.size + 1, 0, none⟩ 1 1 [iv e.id] rfl rfl HNw.out (by simp [iv, Value.oneCell']) (by omega) (by unfold maxLen; omega) (by omega) HBw.out.size _ rfl ?_; intro g2 cp w2 ho2 hg2 hg3 hg4) | fail)
        have HB2 : Hid (Below w1.heap.size w1 w2) := HBw.out.grown hg2 HBw.out.size (fun j hj => by
          rcases HO.out.2 with ⟨hv, _⟩ | ⟨g', _, _, hv, hbg, _⟩
          · rw [hv] at hj; simp [Value.ownBlock] at hj
          · rw [hv] at hj; simp [Value.ownBlock] at hj; omega)
        have HO2 : Hid (w2.ownsRow w1.heap.size TIn 1 (.slice (some ⟨g2, 0, none⟩) (m + 1) cp) (ids ((S.L.take (k + 1)).filter (fun e => e.rd == r))).length ((ids ((S.L.take (k + 1)).filter (fun e => e.rd == r))).map iv)) := by
          show World.ownsRow _ _ _ _ _ _ _
          rw [HSn.out, List.length_append, HM.out, List.map_append]; exact ho2
        clear ho2 hg2 hg3 hg4 HO HBw HNw
        go_wp2
        go_roundw
        case rel => exact ⟨k + 1, by omega, by go_num, HO2.out, HB2.out⟩
        case measure => simp [intOf]; omega
      · rw [if_neg hr, List.append_nil] at HSn
        have hr' : (e.rd == r) = false := by simpa using hr
        go_wp2_with (first | (refine wpList_load_mid rfl TEn _ rfl g (k * 9) rfl _ _ HX.out Try.underlying56 rfl infoEn ?_) | fail)
        go_roundw
        case rel => exact ⟨k + 1, by omega, by go_num, by show World.ownsRow _ _ _ _ _ _ _; rw [HSn.out, HM.out]; exact HO1.out, HBx.out⟩
        case measure => simp [intOf]; omega
    · obtain rfl : k = n := by omega
      have HO := HI.out.1
      rw [List.take_of_length_le (by rw [HN.out]; omega)] at HO
      have HB2 : Hid (Below w.heap.size w wr) := HB1.out.trans (HI.out.2.mono HB1.out.size)
      have HO2 : Hid (wr.ownsRow w.heap.size TIn 1 _ (those S r).length ((those S r).map iv)) := owns_mono HO HB1.out.size
      clear HI HO
      go_wp2
      go_ret
      exact ⟨_, rfl, HO2.out, HB2.out⟩
theorem pending_any (h : RT w F b bm V S) : Calls Try.prog 13 #[.pointer (some ⟨b, 0, none⟩)] w fun e w' => ∃ v, e = .returned v ∧ w'.ownsRow w.heap.size TIn 1 v (those S false).length ((those S false).map iv) ∧ Below w.heap.size w w' := by
  have hu := numbers_any h false
  go_enter Try.func13, Try.ntmps13
  go_wp2_with (first | (go_at_call 33; refine hu.mono ?_; rintro e w9 ⟨v, rfl, h1, h2⟩))
  go_ret
  exact ⟨_, rfl, h1, h2⟩
theorem ready_any (h : RT w F b bm V S) : Calls Try.prog 14 #[.pointer (some ⟨b, 0, none⟩)] w fun e w' => ∃ v, e = .returned v ∧ w'.ownsRow w.heap.size TIn 1 v (those S true).length ((those S true).map iv) ∧ Below w.heap.size w w' := by
  have hu := numbers_any h true
  go_enter Try.func14, Try.ntmps14
  go_wp2_with (first | (go_at_call 33; refine hu.mono ?_; rintro e w9 ⟨v, rfl, h1, h2⟩))
  go_ret
  exact ⟨_, rfl, h1, h2⟩
end
end Go.Proofs.Ytoabigjajnikcaa
