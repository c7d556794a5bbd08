import Derived.Test.YtjkoambfecmglaaVWz
namespace Go.Proofs.Ytjkoambfecmglaa
open Go.RowKit
set_option linter.unusedVariables false
set_option linter.unusedSimpArgs false
set_option maxRecDepth 100000
set_option maxHeartbeats 8000000 in
theorem refused_many (fa oa : Option Addr) (n fc m oc : Nat) (w : World) (h9 : 4096 < n) :
    Calls Try.prog 24 #[.slice fa n fc, .slice oa m oc] w fun e w' => e = .returned (.int .i64 170) ∧ Below w.heap.size w w' := by
  have HB : Hid (Below w.heap.size w (w.alloc (.cells #[.int .i64 170] 27))) := (Below.refl w.heap.size w).alloc (Nat.le_refl _) _
  have hmf : ∀ (fn : Fn) (first cap : Array Value) (w : World), (Instr.makeFunc fn first cap).run Try.prog w = .ok (.func fn first cap) w := fun _ _ _ _ => rfl
  have g1 : decide ((4096 : Int) < (n : Int)) = true := by simp; omega
  have g2 : (4096 : Int) < (n : Int) := by omega
  go_enter_defers Try.func24, Try.ntmps24
  go_wp2
  refine leaves_cons (f := 40) (args := #[.pointer (some ⟨w.heap.size, 0, none⟩)]) (by simp) (by simp [go_sem]) ?_
  refine (catch_idle ⟨w.heap.size, 0, none⟩ _).mono ?_
  rintro e u' w'' ⟨rfl, rfl, rfl⟩
  simp [Leaves, settle, results, Try.results24, go_sem]
  exact HB.out
set_option maxHeartbeats 16000000 in
theorem refused_few (fa oa : Option Addr) (n fc m oc : Nat) (l : List Opv) (w : World) (h9 : ¬ 4096 < n) (h : OpsR w oa l) (hm : l.length = m) (hs : m ≤ 1099511627776) :
    Calls Try.prog 24 #[.slice fa n fc, .slice oa m oc] w fun e w' => e = .returned (.int .i64 (wrg n l : Int)) ∧ Below w.heap.size w w' := by
  have HR : Hid (OpsR w oa l ∧ l.length = m ∧ n ≤ 4096) := ⟨h, hm, by omega⟩
  have HX : Hid (Below w.heap.size w (w.alloc (.cells #[.int .i64 0] 27)) ∧ (w.alloc (.cells #[.int .i64 0] 27)).heap[w.heap.size]? = some (.cells #[.int .i64 0] 27 (0, 0))) := ⟨(Below.refl w.heap.size w).alloc (Nat.le_refl _) _, heap_new _ _⟩
  have hmf : ∀ (fn : Fn) (first cap : Array Value) (w : World), (Instr.makeFunc fn first cap).run Try.prog w = .ok (.func fn first cap) w := fun _ _ _ _ => rfl
  have g1 : decide ((4096 : Int) < (n : Int)) = false := by simp; omega
  have g2 : ¬ (4096 : Int) < (n : Int) := by omega
  obtain ⟨z, hz⟩ : ∃ z, ((wrg n l : Nat) : Int) = z := ⟨_, rfl⟩
  have HZ : Hid (((wrg n l : Nat) : Int) = z) := hz
  rw [hz]
  clear h hm hz
  go_enter_defers Try.func24, Try.ntmps24
  go_wp2
  go_loopw [13] (fun iv wr => ∃ i : Nat, i ≤ m ∧ iv = .int .i64 (i : Int) ∧ Hid (Below w.heap.size w wr ∧ wr.heap[w.heap.size]? = some (.cells #[.int .i64 0] 27 (0, 0)) ∧ (l.take i).all (fun o => o.may n) = true)) (fun iv _ => m - (intOf iv).toNat)
  case atStart => exact ⟨0, Nat.zero_le _, rfl, HX.out.1, HX.out.2, by simp⟩
  case round =>
    obtain ⟨i, hi, rfl, HB⟩ := hrel
    have cz : wr.cell? ⟨w.heap.size, 0, none⟩ = some (.int .i64 0) := blk_at HB.out.2.1 0
    have fz : wr.frozen? ⟨w.heap.size, 0, none⟩ = false := blk_free HB.out.2.1 0
    by_cases hlt : i < m
    · have hil : i < l.length := by rw [HR.out.2.1]; exact hlt
      obtain ⟨b, off, rfl, hc⟩ := HR.out.1.at_ (by rintro rfl; simp at hil)
      obtain ⟨o, ho⟩ : ∃ o, l[i] = o := ⟨_, rfl⟩
      have hc2 := hc i hil
      rw [ho] at hc2
      have c0 : wr.cell? ⟨b, off + i * 7, none⟩ = some (.int .i64 o.k) := cell_later HB.out.1 (hc2 0 _ rfl)
      have c1 : wr.cell? ⟨b, off + i * 7 + 1, none⟩ = some (.int .i64 o.fr) := cell_later HB.out.1 (hc2 1 _ rfl)
      have c2 : wr.cell? ⟨b, off + i * 7 + 2, none⟩ = some (.int .i64 o.to_) := cell_later HB.out.1 (hc2 2 _ rfl)
      have c3 : wr.cell? ⟨b, off + i * 7 + 3, none⟩ = some (.int .i64 o.off) := cell_later HB.out.1 (hc2 3 _ rfl)
      have c4 : wr.cell? ⟨b, off + i * 7 + 4, none⟩ = some (.int .i64 o.len) := cell_later HB.out.1 (hc2 4 _ rfl)
      have c5 : wr.cell? ⟨b, off + i * 7 + 5, none⟩ = some (.slice o.da o.n o.dc) := cell_later HB.out.1 (hc2 5 _ rfl)
      have c6 : wr.cell? ⟨b, off + i * 7 + 6, none⟩ = some (.bool o.sy) := cell_later HB.out.1 (hc2 6 _ rfl)
      have n9 : decide ((i : Int) < (m : Int)) = true := by simp; omega
      have ii0 : (0 : Int) ≤ (i : Int) := by omega
      have ii9 : (i : Int) < (m : Int) := by omega
      have HMy : Hid (∀ W, Calls Try.prog 41 #[.agg #[.int .i64 o.k, .int .i64 o.fr, .int .i64 o.to_, .int .i64 o.off, .int .i64 o.len, .slice o.da o.n o.dc, .bool o.sy], .int .i64 (n : Int)] W fun e w' => endsBy (o.may n) e ∧ Below W.heap.size W w') := fun W => mustBe_any o n W HR.out.2.2
      have HT : Hid (l.take (i + 1) = l.take i ++ [o]) := by show _ = _; rw [List.take_succ_eq_append_getElem hil, ho]
      have HO : Hid (o ∈ l) := by show _ ∈ _; rw [← ho]; exact List.getElem_mem hil
      have HL : Hid (w.heap.size < wr.heap.size) := (Array.getElem?_eq_some_iff.1 HB.out.2.1).1
      clear hc hc2 ho
      go_wp2_with fail
      refine (HMy.out _).mono ?_
      rintro e W2 ⟨he, hb2⟩
      have hA : Below wr.heap.size wr (wr.alloc (.cells #[.int .i64 o.k, .int .i64 o.fr, .int .i64 o.to_, .int .i64 o.off, .int .i64 o.len, .slice o.da o.n o.dc, .bool o.sy] 50)) := (Below.refl _ wr).alloc (Nat.le_refl _) _
      have hA2 : Below wr.heap.size wr W2 := hA.trans (hb2.mono hA.size)
      have HB2 : Hid (Below w.heap.size w W2 ∧ W2.heap[w.heap.size]? = some (.cells #[.int .i64 0] 27 (0, 0))) := ⟨HB.out.1.trans (hA2.mono HB.out.1.size), by rw [hA2.block _ HL.out]; exact HB.out.2.1⟩
      have HE : Hid (endsBy (o.may n) e) := he
      clear he hA hA2 hb2 c0 c1 c2 c3 c4 c5 c6 cz fz HMy
      cases hy : o.may n with
      | true =>
        have HA : Hid ((l.take (i + 1)).all (fun o => o.may n) = true) := by show _ = _; rw [HT.out, List.all_append, HB.out.2.2]; simp [hy]
        obtain rfl := HE.out.1 hy
        clear HE hy
        go_wp2
        go_roundw
        case rel => exact ⟨i + 1, by omega, by go_num, HB2.out.1, HB2.out.2, HA.out⟩
        case measure => simp [intOf]; omega
      | false =>
        have HE1 : Hid (wrg n l = 171) := by
          show _ = _
          unfold wrg
          rw [if_neg h9, if_neg]
          intro hall
          have := List.all_eq_true.1 hall o HO.out
          rw [hy] at this; cases this
        obtain rfl : e = _ := HE.out.2 hy
        obtain rfl : z = 171 := by rw [← HZ.out, HE1.out]; rfl
        clear HE hy HZ
        have cz : W2.cell? ⟨w.heap.size, 0, none⟩ = some (.int .i64 0) := blk_at HB2.out.2 0
        have fz : W2.frozen? ⟨w.heap.size, 0, none⟩ = false := blk_free HB2.out.2 0
        have HN : Hid (Below w.heap.size w (W2.setCell ⟨w.heap.size, 0, none⟩ (.int .i64 171))) := HB2.out.1.setCell (Nat.le_refl _) _
        have cs : (W2.setCell ⟨w.heap.size, 0, none⟩ (.int .i64 171)).cell? ⟨w.heap.size, 0, none⟩ = some (.int .i64 171) := World.cell?_setCell_same _ _ _ (by rw [cz])
        refine leaves_cons (f := 40) (args := #[.pointer (some ⟨w.heap.size, 0, none⟩)]) (by simp) (by simp [go_sem]) ?_
        refine (catch_panicking ⟨w.heap.size, 0, none⟩ (.int .i64 0) 171 [] _ cz fz).mono ?_
        rintro e u' w'' ⟨rfl, rfl, rfl⟩
        simp [Leaves, settle, results, Try.results24, go_sem, cs]
        exact HN.out
    · have n9 : decide ((i : Int) < (m : Int)) = false := by simp; omega
      obtain rfl : i = m := by omega
      have HE : Hid (wrg n l = 0) := by
        show _ = _
        have h5 := HB.out.2.2
        rw [List.take_of_length_le (by rw [HR.out.2.1]; omega)] at h5
        unfold wrg; rw [if_neg h9, if_pos h5]
      have HN : Hid (Below w.heap.size w (wr.setCell ⟨w.heap.size, 0, none⟩ (.int .i64 0))) := HB.out.1.setCell (Nat.le_refl _) _
      have cs : (wr.setCell ⟨w.heap.size, 0, none⟩ (.int .i64 0)).cell? ⟨w.heap.size, 0, none⟩ = some (.int .i64 0) := World.cell?_setCell_same _ _ _ (by rw [cz])
      obtain rfl : z = 0 := by rw [← HZ.out, HE.out]; rfl
      clear HZ
      go_wp2
      refine leaves_cons (f := 40) (args := #[.pointer (some ⟨w.heap.size, 0, none⟩)]) (by simp) (by simp [go_sem]) ?_
      refine (catch_idle ⟨w.heap.size, 0, none⟩ _).mono ?_
      rintro e u' w'' ⟨rfl, rfl, rfl⟩
      simp [Leaves, settle, results, Try.results24, go_sem, cs]
      exact HN.out
/-- the program refuses what the document refuses -/
theorem refused_any (fa oa : Option Addr) (n fc m oc : Nat) (l : List Opv) (w : World) (h : OpsR w oa l) (hm : l.length = m) (hs : m ≤ 1099511627776) :
    Calls Try.prog 24 #[.slice fa n fc, .slice oa m oc] w fun e w' => e = .returned (.int .i64 (wrg n l : Int)) ∧ Below w.heap.size w w' := by
  by_cases h9 : 4096 < n
  · have e1 : wrg n l = 170 := by unfold wrg; rw [if_pos h9]
    rw [e1]
    exact refused_many fa oa n fc m oc w h9
  · exact refused_few fa oa n fc m oc l w h9 h hm hs
end Go.Proofs.Ytjkoambfecmglaa
