import Derived.Test.YtjkoambfecmglaaVTvz
import Derived.Test.YtjkoambfecmglaaJP
import Derived.Test.YtjkoambfecmglaaJM
import Derived.Test.YtjkoambfecmglaaJL
namespace Go.Proofs.Ytjkoambfecmglaa
open Go.RowKit
set_option linter.unusedVariables false
set_option linter.unusedSimpArgs false
set_option maxRecDepth 100000
/-- what doing a read answers and leaves -/
def ReadEnd (n : Nat) (cs ds : List Nat) (m lb j : Nat) (w : World) (e : Ending) (w' : World) : Prop := ∃ (co : Option Addr) (cc : Nat) (da : Option Addr) (dc : Nat) (U : World), e = .returned (.slice co n cc) ∧ w' = U.setCell ⟨lb, j, none⟩ (.slice da m dc) ∧ Below w.heap.size w U ∧ BRow U co cc cs ∧ n ≤ cc ∧ (∀ a, co = some a → w.heap.size ≤ a.block ∧ a.block < U.heap.size) ∧ BRow U da dc ds ∧ m ≤ dc ∧ ∀ a, da = some a → w.heap.size ≤ a.block ∧ a.block < U.heap.size
set_option maxHeartbeats 32000000 in
theorem done_r (ba da : Option Addr) (n bc lb k m lm lc off pn dc : Nat) (fr t : Int) (sy : Bool) (bs ds : List Nat) (w : World) (hb : BRow w ba bc bs) (hn : bs.length = n) (hns : n ≤ 4096) (hin : off + m ≤ n) (hk : k < lm) (hlm : lm ≤ 10) (hc : ∀ j v, (#[.int .i64 1, .int .i64 fr, .int .i64 t, .int .i64 (off : Int), .int .i64 (m : Int), .slice da pn dc, .bool sy] : Array Value)[j]? = some v → w.cell? ⟨lb, k * 7 + j, none⟩ = some v) (hbc : n ≤ bc) (hfz : w.frozen? ⟨lb, k * 7 + 5, none⟩ = false) (hlb : lb < w.heap.size) :
    Calls Try.prog 23 #[.slice ba n bc, .slice (some ⟨lb, 0, none⟩) lm lc, .int .i64 (k : Int)] w (ReadEnd n bs ((bs.drop off).take m) m lb (k * 7 + 5) w) := by
  have HB0 : Hid (Below w.heap.size w (w.alloc (.cells #[.int .i64 1, .int .i64 fr, .int .i64 t, .int .i64 (off : Int), .int .i64 (m : Int), .slice da pn dc, .bool sy] 50))) := (Below.refl _ w).alloc (Nat.le_refl _) _
  have HA0 : Hid ((w.alloc (.cells #[.int .i64 1, .int .i64 fr, .int .i64 t, .int .i64 (off : Int), .int .i64 (m : Int), .slice da pn dc, .bool sy] 50)).heap[w.heap.size]? = some (.cells #[.int .i64 1, .int .i64 fr, .int .i64 t, .int .i64 (off : Int), .int .i64 (m : Int), .slice da pn dc, .bool sy] 50 (0, 0))) := heap_new _ _
  have HSz : Hid ((w.alloc (.cells #[.int .i64 1, .int .i64 fr, .int .i64 t, .int .i64 (off : Int), .int .i64 (m : Int), .slice da pn dc, .bool sy] 50)).heap.size = w.heap.size + 1) := World.size_alloc _ _
  have HCp : Hid _ := copy_own ba bc n bs (w.alloc (.cells #[.int .i64 1, .int .i64 fr, .int .i64 t, .int .i64 (off : Int), .int .i64 (m : Int), .slice da pn dc, .bool sy] 50)) (hb.later HB0.out) hn
  have HD : Hid (BRow w ba bc bs ∧ bs.length = n) := ⟨hb, hn⟩
  have HLb : Hid (w.frozen? ⟨lb, k * 7 + 5, none⟩ = false ∧ lb < w.heap.size ∧ w.cell? ⟨lb, k * 7 + 5, none⟩ = some (.slice da pn dc)) := ⟨hfz, hlb, hc 5 _ rfl⟩
  obtain ⟨q, hq⟩ : ∃ q, off + m = q := ⟨_, rfl⟩
  have q1 : (off : Int) + (m : Int) = (q : Int) := by omega
  have q2 : (0 : Int) ≤ (off : Int) := by omega
  have q3 : (off : Int) ≤ (q : Int) := by omega
  have q4 : (q : Int) ≤ (bc : Int) := by omega
  have q5 : (q : Int) ≤ (n : Int) := by omega
  have q6 : q ≤ 4096 := by omega
  obtain ⟨sa, hsa⟩ : ∃ sa, (if bc = off then ba else Option.map (fun x => x.add off) ba) = sa := ⟨_, rfl⟩
  have HCr : Hid (∀ (U : World) (sa' : Option Addr) (k' : Nat), Below w.heap.size w U → sa' = (if bc = off then ba else Option.map (fun x => x.add off) ba) → k' = m → Calls Try.prog 9 #[.slice sa' k' (bc - off)] U fun e w' => ∃ co cc, e = .returned (.slice co m cc) ∧ w'.ownsRow U.heap.size 5 1 (.slice co m cc) m (((bs.drop off).take m).map bv) ∧ BRow w' co cc ((bs.drop off).take m) ∧ m ≤ cc ∧ Below U.heap.size U w') := fun U sa' k' hU hs' hk' => by
    rw [hk']
    exact copy_own sa' (bc - off) m ((bs.drop off).take m) U (((hb.sub off m (bc - off) (by omega) (by omega) sa' hs' rfl)).later hU) (by rw [List.length_take, List.length_drop]; omega)
  have c0 : w.cell? ⟨lb, k * 7, none⟩ = some (.int .i64 1) := hc 0 _ rfl
  have c1 : w.cell? ⟨lb, k * 7 + 1, none⟩ = some (.int .i64 fr) := hc 1 _ rfl
  have c2 : w.cell? ⟨lb, k * 7 + 2, none⟩ = some (.int .i64 t) := hc 2 _ rfl
  have c3 : w.cell? ⟨lb, k * 7 + 3, none⟩ = some (.int .i64 (off : Int)) := hc 3 _ rfl
  have c4 : w.cell? ⟨lb, k * 7 + 4, none⟩ = some (.int .i64 (m : Int)) := hc 4 _ rfl
  have c5 : w.cell? ⟨lb, k * 7 + 5, none⟩ = some (.slice da pn dc) := hc 5 _ rfl
  have c6 : w.cell? ⟨lb, k * 7 + 6, none⟩ = some (.bool sy) := hc 6 _ rfl
  have kk0 : (0 : Int) ≤ (k : Int) := by omega
  have kk9 : (k : Int) < (lm : Int) := by omega
  clear hb hn hc hfz hbc hlb
  go_enter Try.func23, Try.ntmps23
  go_wp2_with fail
  refine Calls.mono HCp.out ?_
  rintro e W1 ⟨co, cc, rfl, ho1, hr1, hcc, hb1⟩
  have HA1 : Hid (W1.heap[w.heap.size]? = some (.cells #[.int .i64 1, .int .i64 fr, .int .i64 t, .int .i64 (off : Int), .int .i64 (m : Int), .slice da pn dc, .bool sy] 50 (0, 0)) ∧ Below w.heap.size w W1) := ⟨(hb1.block _ (by rw [HSz.out]; omega)).trans HA0.out, HB0.out.trans (hb1.mono HB0.out.size)⟩
  have HO1 : Hid (W1.ownsRow (w.heap.size + 1) 5 1 (.slice co n cc) n (bs.map bv)) := by rw [HSz.out] at ho1; exact ho1
  have HR1 : Hid (BRow W1 co cc bs ∧ n ≤ cc) := ⟨hr1, hcc⟩
  clear ho1 hr1 hcc hb1 HCp c0 c1 c2 c3 c4 c5 c6
  by_cases hm0 : m = 0
  · have HLz : Hid (bs = bs) := by
      show _ = _
      rfl
    have a4 : W1.cell? ⟨w.heap.size, 4, none⟩ = some (.int .i64 ((m : Nat) : Int)) := blk_at HA1.out.1 4
    have a0 : W1.cell? ⟨w.heap.size, 0, none⟩ = some (.int .i64 1) := blk_at HA1.out.1 0
    have n9 : decide ((0 : Int) < (m : Int)) = false := decide_eq_false (by omega)
    have n9b : decide (0 < m) = false := decide_eq_false (by omega)
    have HM0 : Hid (m = 0) := hm0
    clear hm0
    have HBx : Hid (Below w.heap.size w W1) := HA1.out.2
    have d5 : World.cell? W1 ⟨lb, k * 7 + 5, none⟩ = some (.slice da pn dc) := cell_later HBx.out HLb.out.2.2
    have f5 : World.frozen? W1 ⟨lb, k * 7 + 5, none⟩ = false := by rw [World.frozen?_of_block (a := ⟨lb, k * 7 + 5, none⟩) (HBx.out.block _ HLb.out.2.1)]; exact HLb.out.1
    have HCc : Hid _ := HCr.out W1 sa (q - off) HBx.out hsa.symm (by have := HM0.out; omega)
    have HXq : Hid (∃ co' cc', Value.slice co n cc = .slice co' n cc' ∧ BRow W1 co' cc' bs ∧ n ≤ cc' ∧ ∀ a, co' = some a → w.heap.size ≤ a.block ∧ a.block < (W1).heap.size) := by
      refine ⟨co, cc, rfl, HR1.out.1, HR1.out.2, fun a e => ?_⟩
      subst e
      have h1 := owns_in HO1.out (g := a.block) (by rfl)
      exact ⟨by omega, h1.2⟩
    have a3 : W1.cell? ⟨w.heap.size, 3, none⟩ = some (.int .i64 (off : Int)) := blk_at HA1.out.1 3
    go_wp2_with fail
    refine wp_loop_rounds 1 ?_
    rw [rounds_succ]
    go_wp2_with fail
    refine Calls.mono HCc.out ?_
    rintro e W8 ⟨c8, k8, rfl, ho8, hr8, hk8, hb8⟩
    have HB8 : Hid (Below w.heap.size w W8 ∧ Below (W1).heap.size W1 W8) := ⟨HBx.out.trans (hb8.mono HBx.out.size), hb8⟩
    have d8 : W8.cell? ⟨lb, k * 7 + 5, none⟩ = some (.slice da pn dc) := cell_later HB8.out.1 HLb.out.2.2
    have f8 : W8.frozen? ⟨lb, k * 7 + 5, none⟩ = false := by rw [World.frozen?_of_block (a := ⟨lb, k * 7 + 5, none⟩) (HB8.out.1.block _ HLb.out.2.1)]; exact HLb.out.1
    have HE8 : Hid (ReadEnd n bs ((bs.drop off).take m) m lb (k * 7 + 5) w (.returned (.slice co n cc)) (W8.setCell ⟨lb, k * 7 + 5, none⟩ (.slice c8 m k8))) := by
      obtain ⟨co', cc', e9, r9, l9, n9⟩ := HXq.out
      refine ⟨co', cc', c8, k8, W8, congrArg Ending.returned e9, rfl, HB8.out.1, r9.later HB8.out.2, l9, fun a e => ⟨(n9 a e).1, Nat.lt_of_lt_of_le (n9 a e).2 HB8.out.2.size⟩, hr8, hk8, fun a e => ?_⟩
      subst e
      have h1 := owns_in ho8 (g := a.block) (by rfl)
      exact ⟨Nat.le_trans HBx.out.size h1.1, h1.2⟩
    clear ho8 hr8 hk8 hb8 HCc d5 f5
    go_wp2_with fail
    go_ret
    exact HE8.out
  obtain ⟨g, eg, hgB, -, -⟩ := own_some HO1.out (by omega)
  subst eg
  have HT0 : Hid (Dt w W1 #[.int .i64 1, .int .i64 fr, .int .i64 t, .int .i64 (off : Int), .int .i64 (m : Int), .slice da pn dc, .bool sy] n g cc bs) := ⟨HA1.out.2, HA1.out.1, HO1.out, HR1.out.1.lt⟩
  go_wp2_with fail
  go_loopw [9] (fun iv wr => ∃ i : Nat, i ≤ m ∧ iv = .int .i64 (i : Int) ∧ Hid (Dt w wr #[.int .i64 1, .int .i64 fr, .int .i64 t, .int .i64 (off : Int), .int .i64 (m : Int), .slice da pn dc, .bool sy] n g cc (bs))) (fun iv _ => m - (intOf iv).toNat)
  case atStart => exact ⟨0, Nat.zero_le _, rfl, by exact HT0.out⟩
  case round =>
    obtain ⟨i, hi, rfl, HF⟩ := hrel
    have a0 : wr.cell? ⟨w.heap.size, 0, none⟩ = some (.int .i64 1) := blk_at HF.out.a 0
    have a3 : wr.cell? ⟨w.heap.size, 3, none⟩ = some (.int .i64 (off : Int)) := blk_at HF.out.a 3
    have a4 : wr.cell? ⟨w.heap.size, 4, none⟩ = some (.int .i64 (m : Int)) := blk_at HF.out.a 4
    have a5 : wr.cell? ⟨w.heap.size, 5, none⟩ = some (.slice da pn dc) := blk_at HF.out.a 5
    by_cases hlt : i < m
    · have n9 : decide ((i : Int) < (m : Int)) = true := decide_eq_true (by omega)
      have n9b : decide (i < m) = true := decide_eq_true hlt
      have ii0 : (0 : Int) ≤ (i : Int) := by omega
      have ii9 : (i : Int) < (m : Int) := by omega
      have HIl : Hid (i < m) := hlt
      go_wp2_with fail
      go_roundw
      case rel => exact ⟨i + 1, HIl.out, by go_num, HF.out⟩
      case measure => have := HIl.out; simp [intOf]; omega
    · have n9 : decide ((i : Int) < (m : Int)) = false := decide_eq_false (by omega)
      have n9b : decide (i < m) = false := decide_eq_false hlt
      have HXe : Hid (i = m) := Nat.le_antisymm hi (Nat.le_of_not_lt hlt)
      have HBx : Hid (Below w.heap.size w wr) := HF.out.bel
      have d5 : World.cell? wr ⟨lb, k * 7 + 5, none⟩ = some (.slice da pn dc) := cell_later HBx.out HLb.out.2.2
      have f5 : World.frozen? wr ⟨lb, k * 7 + 5, none⟩ = false := by rw [World.frozen?_of_block (a := ⟨lb, k * 7 + 5, none⟩) (HBx.out.block _ HLb.out.2.1)]; exact HLb.out.1
      have HCc : Hid _ := HCr.out wr (Option.map (fun x => x.add off) ba) (q - off) HBx.out (if_neg (by omega)).symm (by omega)
      have HXq : Hid (∃ co' cc', Value.slice (some ⟨g, 0, none⟩) n cc = .slice co' n cc' ∧ BRow wr co' cc' bs ∧ n ≤ cc' ∧ ∀ a, co' = some a → w.heap.size ≤ a.block ∧ a.block < (wr).heap.size) := by
        have h1 := owns_in HF.out.row (g := g) rfl
        exact ⟨_, cc, rfl, brow_own HF.out.row HF.out.dlen HF.out.lt (by omega), owns_cap HF.out.row, fun a e => by cases e; exact ⟨by show w.heap.size ≤ g; omega, h1.2⟩⟩
      go_wp2_with fail
      refine Calls.mono HCc.out ?_
      rintro e W8 ⟨c8, k8, rfl, ho8, hr8, hk8, hb8⟩
      have HB8 : Hid (Below w.heap.size w W8 ∧ Below (wr).heap.size wr W8) := ⟨HBx.out.trans (hb8.mono HBx.out.size), hb8⟩
      have d8 : W8.cell? ⟨lb, k * 7 + 5, none⟩ = some (.slice da pn dc) := cell_later HB8.out.1 HLb.out.2.2
      have f8 : W8.frozen? ⟨lb, k * 7 + 5, none⟩ = false := by rw [World.frozen?_of_block (a := ⟨lb, k * 7 + 5, none⟩) (HB8.out.1.block _ HLb.out.2.1)]; exact HLb.out.1
      have HE8 : Hid (ReadEnd n bs ((bs.drop off).take m) m lb (k * 7 + 5) w (.returned (.slice (some ⟨g, 0, none⟩) n cc)) (W8.setCell ⟨lb, k * 7 + 5, none⟩ (.slice c8 m k8))) := by
        obtain ⟨co', cc', e9, r9, l9, n9⟩ := HXq.out
        refine ⟨co', cc', c8, k8, W8, congrArg Ending.returned e9, rfl, HB8.out.1, r9.later HB8.out.2, l9, fun a e => ⟨(n9 a e).1, Nat.lt_of_lt_of_le (n9 a e).2 HB8.out.2.size⟩, hr8, hk8, fun a e => ?_⟩
        subst e
        have h1 := owns_in ho8 (g := a.block) (by rfl)
        exact ⟨Nat.le_trans HBx.out.size h1.1, h1.2⟩
      clear ho8 hr8 hk8 hb8 HCc d5 f5
      go_wp2_with fail
      go_ret
      exact HE8.out
end Go.Proofs.Ytjkoambfecmglaa

namespace Go.Proofs.Ytjkoambfecmglaa
open Go.RowKit
set_option linter.unusedVariables false
set_option linter.unusedSimpArgs false
set_option maxRecDepth 100000
set_option maxHeartbeats 16000000 in
/-- a copy of all, with the data -/
theorem ops_own (oa : Option Addr) (m oc : Nat) (l : List Opv) (dss : List (List Nat)) (w : World) (h : OpsD w oa l dss) (hm : l.length = m) (hs : m ≤ 1048576) :
    Calls Try.prog 10 #[.slice oa m oc] w fun e w' => ∃ oa2 oc2 l2, e = .returned (.slice oa2 m oc2) ∧ Below w.heap.size w w' ∧ w'.ownsRow w.heap.size 50 7 (.slice oa2 m oc2) m (ocells l2) ∧ l2.length = m ∧ (∀ (k : Nat) (q : Opv) (ds : List Nat), l2[k]? = some q → dss[k]? = some ds → w'.ownsRow w.heap.size 5 1 (.slice q.da q.n q.dc) q.n (ds.map bv) ∧ BRow w' q.da q.dc ds) ∧ ∀ (k : Nat) (p q : Opv), l[k]? = some p → l2[k]? = some q → Sib p q := by
  have HD : Hid (OpsD w oa l dss ∧ l.length = m ∧ m ≤ 1048576) := ⟨h, hm, hs⟩
  have hmx : m ≤ 1048576 := hs
  clear h hm hs
  go_enter Try.func10, Try.ntmps10
  go_wp2
  go_loopw [4, 3] (fun xv cv wr => ∃ (i : Nat) (l2 : List Opv), i ≤ m ∧ xv = .int .i64 (i : Int) ∧ Hid (Below w.heap.size w wr ∧ wr.ownsRow w.heap.size 50 7 cv i (ocells l2) ∧ l2.length = i ∧ (∀ (k : Nat) (p q : Opv), l[k]? = some p → l2[k]? = some q → Sib p q) ∧ ∀ (k : Nat) (q : Opv) (ds : List Nat), l2[k]? = some q → dss[k]? = some ds → wr.ownsRow w.heap.size 5 1 (.slice q.da q.n q.dc) q.n (ds.map bv))) (fun xv _ _ => m - (intOf xv).toNat)
  case atStart => exact ⟨0, [], Nat.zero_le _, rfl, Below.refl _ _, ⟨rfl, .inl ⟨rfl, rfl⟩⟩, rfl, fun k p q _ h => by simp at h, fun k q ds h => by simp at h⟩
  case round =>
    obtain ⟨i, l2, hi, rfl, HB⟩ := hrel
    obtain ⟨ca, cc, hcv⟩ := own_form7 HB.out.2.1
    subst hcv
    by_cases hlt : i < m
    · have n9 : decide ((i : Int) < (m : Int)) = true := decide_eq_true (by omega)
      have ii0 : (0 : Int) ≤ (i : Int) := by omega
      have ii9 : (i : Int) < (m : Int) := by omega
      have HIi : Hid (i < m) := hlt
      obtain ⟨o, ho⟩ : ∃ o, l[i]? = some o := ⟨_, List.getElem?_eq_getElem (by rw [HD.out.2.1]; exact hlt)⟩
      obtain ⟨ds, hds⟩ : ∃ ds, dss[i]? = some ds := ⟨_, List.getElem?_eq_getElem (by rw [HD.out.1.len, HD.out.2.1]; exact hlt)⟩
      obtain ⟨hr1, hr2⟩ := HD.out.1.row i o ds ho hds
      obtain ⟨b, off, e1, hc2⟩ := ops_at (HD.out.1.ops.later HB.out.1) ho
      subst e1
      have HOo : Hid (l[i]? = some o ∧ dss[i]? = some ds ∧ ds.length = o.n) := ⟨ho, hds, hr2⟩
      have HCp : Hid (∀ V, Below wr.heap.size wr V → Calls Try.prog 9 #[.slice o.da o.n o.dc] V fun e w' => ∃ va vc, e = .returned (.slice va o.n vc) ∧ w'.ownsRow V.heap.size 5 1 (.slice va o.n vc) o.n (ds.map bv) ∧ Below V.heap.size V w') := fun V hV => copy_row (hr1.later (HB.out.1.trans (hV.mono HB.out.1.size))) hr2
      have c0 : wr.cell? ⟨b, off + i * 7, none⟩ = some (.int .i64 o.k) := hc2 0 _ rfl
      have c1 : wr.cell? ⟨b, off + i * 7 + 1, none⟩ = some (.int .i64 o.fr) := hc2 1 _ rfl
      have c2 : wr.cell? ⟨b, off + i * 7 + 2, none⟩ = some (.int .i64 o.to_) := hc2 2 _ rfl
      have c3 : wr.cell? ⟨b, off + i * 7 + 3, none⟩ = some (.int .i64 o.off) := hc2 3 _ rfl
      have c4 : wr.cell? ⟨b, off + i * 7 + 4, none⟩ = some (.int .i64 o.len) := hc2 4 _ rfl
      have c5 : wr.cell? ⟨b, off + i * 7 + 5, none⟩ = some (.slice o.da o.n o.dc) := hc2 5 _ rfl
      have c6 : wr.cell? ⟨b, off + i * 7 + 6, none⟩ = some (.bool o.sy) := hc2 6 _ rfl
      have HAl : Hid (Below wr.heap.size wr (wr.alloc (.cells #[.int .i64 o.k, .int .i64 o.fr, .int .i64 o.to_, .int .i64 o.off, .int .i64 o.len, .slice o.da o.n o.dc, .bool o.sy] 50))) := (Below.refl _ wr).alloc (Nat.le_refl _) _
      have c5b : (wr.alloc (.cells #[.int .i64 o.k, .int .i64 o.fr, .int .i64 o.to_, .int .i64 o.off, .int .i64 o.len, .slice o.da o.n o.dc, .bool o.sy] 50)).cell? ⟨b, off + i * 7 + 5, none⟩ = some (.slice o.da o.n o.dc) := cell_later HAl.out c5
      clear hc2 ho hds hr1 hr2
      go_wp2_with fail
      refine (HCp.out _ HAl.out).mono ?_
      rintro e W2 ⟨va, vc, rfl, hrow, hb2⟩
      have hB2 : Below wr.heap.size wr W2 := HAl.out.trans (hb2.mono HAl.out.size)
      have hblk : W2.heap[wr.heap.size]? = some (.cells #[.int .i64 o.k, .int .i64 o.fr, .int .i64 o.to_, .int .i64 o.off, .int .i64 o.len, .slice o.da o.n o.dc, .bool o.sy] 50 (0, 0)) := (hb2.block _ (by rw [World.size_alloc]; exact Nat.lt_succ_self _)).trans (heap_new _ _)
      have HBk : Hid _ := hblk
      have HB2 : Hid (Below wr.heap.size wr W2 ∧ W2.ownsRow (wr.heap.size + 1) 5 1 (.slice va o.n vc) o.n (ds.map bv)) := ⟨hB2, by have h9 := hrow; rw [World.size_alloc] at h9; exact h9⟩
      have e0 : W2.cell? ⟨wr.heap.size, 0, none⟩ = some (.int .i64 o.k) := blk_at hblk 0
      have e1 : W2.cell? ⟨wr.heap.size, 1, none⟩ = some (.int .i64 o.fr) := blk_at hblk 1
      have e2 : W2.cell? ⟨wr.heap.size, 2, none⟩ = some (.int .i64 o.to_) := blk_at hblk 2
      have e3 : W2.cell? ⟨wr.heap.size, 3, none⟩ = some (.int .i64 o.off) := blk_at hblk 3
      have e4 : W2.cell? ⟨wr.heap.size, 4, none⟩ = some (.int .i64 o.len) := blk_at hblk 4
      have e5 : W2.cell? ⟨wr.heap.size, 5, none⟩ = some (.slice o.da o.n o.dc) := blk_at hblk 5
      have e6 : W2.cell? ⟨wr.heap.size, 6, none⟩ = some (.bool o.sy) := blk_at hblk 6
      have ef : W2.frozen? ⟨wr.heap.size, 5, none⟩ = false := blk_free hblk 5
      have HB3 : Hid (Below wr.heap.size wr (W2.setCell ⟨wr.heap.size, 5, none⟩ (.slice va o.n vc))) := hB2.setCell (p := ⟨wr.heap.size, 5, none⟩) (Nat.le_refl _) _
      have HO4 : Hid (((W2.setCell ⟨wr.heap.size, 5, none⟩ (.slice va o.n vc)).alloc (.cells #[.int .i64 o.k, .int .i64 o.fr, .int .i64 o.to_, .int .i64 o.off, .int .i64 o.len, .slice va o.n vc, .bool o.sy] 50)).ownsRow w.heap.size 50 7 (.slice ca i cc) i (ocells l2)) := by
        have hX : Below wr.heap.size wr ((W2.setCell ⟨wr.heap.size, 5, none⟩ (.slice va o.n vc)).alloc (.cells #[.int .i64 o.k, .int .i64 o.fr, .int .i64 o.to_, .int .i64 o.off, .int .i64 o.len, .slice va o.n vc, .bool o.sy] 50)) := HB3.out.alloc HB3.out.size _
        exact rows_same HB.out.2.1 fun g e => hX.block g (owns_in HB.out.2.1 e).2
      have HNw : Hid (∀ j u, [Value.int .i64 o.k, .int .i64 o.fr, .int .i64 o.to_, .int .i64 o.off, .int .i64 o.len, .slice va o.n vc, .bool o.sy][j]? = some u → ((W2.setCell ⟨wr.heap.size, 5, none⟩ (.slice va o.n vc)).alloc (.cells #[.int .i64 o.k, .int .i64 o.fr, .int .i64 o.to_, .int .i64 o.off, .int .i64 o.len, .slice va o.n vc, .bool o.sy] 50)).cell? ((⟨W2.heap.size, 0, none⟩ : Addr).add j) = some u) := fun j u hu => by
        have h1 := new_at (W2.setCell ⟨wr.heap.size, 5, none⟩ (.slice va o.n vc)) (.cells #[.int .i64 o.k, .int .i64 o.fr, .int .i64 o.to_, .int .i64 o.off, .int .i64 o.len, .slice va o.n vc, .bool o.sy] 50) W2.heap.size (by rw [World.size_setCell])
        rw [add_plain, Nat.zero_add, blk_at h1 j, ← Array.getElem?_toList]
        exact hu
      have HBg : Hid (w.heap.size ≤ ((W2.setCell ⟨wr.heap.size, 5, none⟩ (.slice va o.n vc)).alloc (.cells #[.int .i64 o.k, .int .i64 o.fr, .int .i64 o.to_, .int .i64 o.off, .int .i64 o.len, .slice va o.n vc, .bool o.sy] 50)).heap.size) := by
        show _ ≤ _
        rw [World.size_alloc]
        exact Nat.le_succ_of_le (Nat.le_trans HB.out.1.size HB3.out.size)
      obtain ⟨i0, hi0, hz0, hz1, hz2⟩ := info_parts Try.info50
      clear hB2 hblk hrow hb2 c0 c1 c2 c3 c4 c5 c6 c5b
      go_wp2_with (at_builtin; refine wpList_append_own _ rfl _ _ 23 rfl w.heap.size 50 i0 _ 7 72 Try.under23 hi0 hz0 hz1 hz2 rfl (by decide) (.slice ca i cc) i (ocells l2) rfl HO4.out ⟨W2.heap.size, 0, none⟩ 1 1 [.int .i64 o.k, .int .i64 o.fr, .int .i64 o.to_, .int .i64 o.off, .int .i64 o.len, .slice va o.n vc, .bool o.sy] rfl rfl HNw.out (by simp [Value.oneCell']) (by have := HIi.out; have := HD.out.2.2; unfold maxLen; omega) (by have := HIi.out; have := HD.out.2.2; omega) HBg.out ?_)
      intro v3 W3 ho3 hg3 _
      obtain ⟨ca3, cc3, hv3⟩ := own_form7 ho3
      subst hv3
      have HR : Hid (Below w.heap.size w W3 ∧ W3.ownsRow w.heap.size 50 7 (.slice ca3 (i + 1) cc3) (i + 1) (ocells (l2 ++ [⟨o.k, o.fr, o.to_, o.off, o.len, va, o.n, vc, o.sy⟩])) ∧ (l2 ++ [(⟨o.k, o.fr, o.to_, o.off, o.len, va, o.n, vc, o.sy⟩ : Opv)]).length = i + 1 ∧ (∀ (k : Nat) (p q : Opv), l[k]? = some p → (l2 ++ [(⟨o.k, o.fr, o.to_, o.off, o.len, va, o.n, vc, o.sy⟩ : Opv)])[k]? = some q → Sib p q) ∧ ∀ (k : Nat) (q : Opv) (ds : List Nat), (l2 ++ [(⟨o.k, o.fr, o.to_, o.off, o.len, va, o.n, vc, o.sy⟩ : Opv)])[k]? = some q → dss[k]? = some ds → W3.ownsRow w.heap.size 5 1 (.slice q.da q.n q.dc) q.n (ds.map bv)) := by
        have hX : Below wr.heap.size wr ((W2.setCell ⟨wr.heap.size, 5, none⟩ (.slice va o.n vc)).alloc (.cells #[.int .i64 o.k, .int .i64 o.fr, .int .i64 o.to_, .int .i64 o.off, .int .i64 o.len, .slice va o.n vc, .bool o.sy] 50)) := HB3.out.alloc HB3.out.size _
        have hwr := HB.out.1.size
        have hl2 := HB.out.2.2.1
        refine ⟨(HB.out.1.trans (hX.mono hwr)).grown hg3 (Nat.le_trans hwr hX.size) (fun k e => (owns_in HB.out.2.1 e).1), ?_, by rw [List.length_append, hl2]; rfl, fun k p q hp hq => ?_, fun k q ds2 hq hd => ?_⟩
        · have h9 : ocells (l2 ++ [(⟨o.k, o.fr, o.to_, o.off, o.len, va, o.n, vc, o.sy⟩ : Opv)]) = ocells l2 ++ [.int .i64 o.k, .int .i64 o.fr, .int .i64 o.to_, .int .i64 o.off, .int .i64 o.len, .slice va o.n vc, .bool o.sy] := by simp [ocells]
          rw [h9]; exact ho3
        · rcases Nat.lt_or_ge k l2.length with h1 | h1
          · rw [List.getElem?_append_left h1] at hq; exact HB.out.2.2.2.1 k p q hp hq
          · rw [List.getElem?_append_right h1] at hq
            have hk0 := (List.getElem?_eq_some_iff.1 hq).1
            simp at hk0
            have hki : k = i := by omega
            subst hki
            rw [HOo.out.1] at hp
            rw [hk0] at hq
            simp at hq
            cases hp
            subst hq
            rfl
        · rcases Nat.lt_or_ge k l2.length with h1 | h1
          · rw [List.getElem?_append_left h1] at hq
            have h2 := HB.out.2.2.2.2 k q ds2 hq hd
            refine owns_same h2 fun g e => ?_
            have h3 := (owns_in h2 e).2
            obtain ⟨cu, h4⟩ := owns_type h2 g e
            refine (hg3.block g (Nat.lt_of_lt_of_le h3 hX.size) (fun e2 => ?_)).trans (hX.block g h3)
            rcases HB.out.2.1.2 with ⟨h5, _⟩ | ⟨g', cap, cur, h5, _, h6, _⟩
            · rw [h5] at e2; cases e2
            · rw [h5] at e2; cases e2; rw [h4] at h6; cases h6
          · rw [List.getElem?_append_right h1] at hq
            have hk0 := (List.getElem?_eq_some_iff.1 hq).1
            simp at hk0
            have hki : k = i := by omega
            subst hki
            rw [HOo.out.2.1] at hd
            cases hd
            rw [hk0] at hq
            simp at hq
            subst hq
            have h2 := HB2.out.2
            refine owns_mono (owns_same h2 fun g e => ?_) (Nat.le_succ_of_le hwr)
            have h3 := owns_in h2 e
            have h4 : g < ((W2.setCell ⟨wr.heap.size, 5, none⟩ (.slice va o.n vc)).alloc (.cells #[.int .i64 o.k, .int .i64 o.fr, .int .i64 o.to_, .int .i64 o.off, .int .i64 o.len, .slice va o.n vc, .bool o.sy] 50)).heap.size := by rw [World.size_alloc, World.size_setCell]; omega
            refine (hg3.block g h4 (fun e2 => ?_)).trans ?_
            · have h5 := (owns_in HB.out.2.1 e2.symm).2
              omega
            · refine ((World.grownBy_alloc (W2.setCell ⟨wr.heap.size, 5, none⟩ (.slice va o.n vc)) (.cells #[.int .i64 o.k, .int .i64 o.fr, .int .i64 o.to_, .int .i64 o.off, .int .i64 o.len, .slice va o.n vc, .bool o.sy] 50) none).block g (by rw [World.size_setCell]; exact h3.2) (by simp)).trans ?_
              exact Below.heap_setCell _ _ _ _ (by show g ≠ wr.heap.size; omega)
      clear ho3 hg3 e0 e1 e2 e3 e4 e5 e6 ef
      go_wp2
      go_roundw
      case rel => exact ⟨i + 1, _, HIi.out, by go_num, HR.out⟩
      case measure => simp [intOf]; omega
    · have n9 : decide ((i : Int) < (m : Int)) = false := decide_eq_false (by omega)
      have HIe : Hid (i = m) := Nat.le_antisymm hi (Nat.le_of_not_lt hlt)
      have HFi : Hid (∃ oa2 oc2, Value.slice ca i cc = .slice oa2 m oc2 ∧ wr.ownsRow w.heap.size 50 7 (.slice oa2 m oc2) m (ocells l2)) := by
        have h1 := HB.out.2.1
        have h3 := HIe.out
        rw [h3] at h1 ⊢
        exact ⟨ca, cc, rfl, h1⟩
      go_wp2_with fail
      go_ret
      obtain ⟨ao, cap, h1, h2⟩ := HFi.out
      refine ⟨ao, cap, l2, congrArg Ending.returned h1, HB.out.1, h2, by rw [HB.out.2.2.1, HIe.out], fun k q ds hq hd => ?_, HB.out.2.2.2.1⟩
      have h3 := HB.out.2.2.2.2 k q ds hq hd
      have hkm : k < l.length := by
        have := (List.getElem?_eq_some_iff.1 hq).1
        rw [HB.out.2.2.1, HIe.out, ← HD.out.2.1] at this; exact this
      have h4 := (HD.out.1.row k l[k] ds (List.getElem?_eq_getElem hkm) hd).1
      have h5 : ds.length = q.n := by have := h3.1; rw [List.length_map] at this; omega
      refine ⟨h3, ?_⟩
      rw [← h5] at h3
      obtain ⟨a2, c2, e2, h6⟩ := BRow.own h3 h4.lt h4.len
      cases e2
      exact h6
/-- an own row of operations that holds something -/
theorem own7_some {W : World} {B n cc : Nat} {co : Option Addr} {xs : List Value} (h : W.ownsRow B 50 7 (.slice co n cc) n xs) (hn : 0 < n) : ∃ g, co = some ⟨g, 0, none⟩ ∧ B ≤ g ∧ g < W.heap.size ∧ (∀ j, j < n * 7 → W.cell? ⟨g, j, none⟩ = xs[j]?) ∧ ∀ j, W.frozen? ⟨g, j, none⟩ = false := by
  rcases h.2 with ⟨_, h0⟩ | ⟨g, cap, cur, hv, hb, hg, hc, _, hsz, ht⟩
  · omega
  · cases hv
    refine ⟨g, rfl, hb, (Array.getElem?_eq_some_iff.1 hg).1, fun j hj => ?_, fun j => ?_⟩
    · rw [← ht, List.getElem?_take, if_pos hj]
      unfold World.cell?; simp only [hg]; simp
    · exact blk_free hg j
theorem own7_set {W : World} {B n g cap j : Nat} {xs : List Value} (h : W.ownsRow B 50 7 (.slice (some ⟨g, 0, none⟩) n cap) n xs) (x : Value) (hj : j < n * 7) : (W.setCell ⟨g, j, none⟩ x).ownsRow B 50 7 (.slice (some ⟨g, 0, none⟩) n cap) n (xs.set j x) := by
  refine ⟨by rw [List.length_set]; exact h.1, Or.inr ?_⟩
  rcases h.2 with ⟨h0, _⟩ | ⟨g', cap', cur, hv, hb, hc, h1, h2, h3, h4⟩
  · simp at h0
  · simp at hv
    obtain ⟨rfl, rfl⟩ := hv
    refine ⟨g, cap, cur.setIfInBounds j x, rfl, hb, heap_setCell_same W g j cur 50 x hc, h1, h2, by simpa using h3, ?_⟩
    rw [Array.toList_setIfInBounds, List.take_set, h4]
theorem ocells_set : ∀ {L : List Opv} {k j : Nat} {p p' : Opv} {v : Value}, L[k]? = some p → j < 7 → p.cells.toList.set j v = p'.cells.toList → (ocells L).set (k * 7 + j) v = ocells (L.set k p')
  | [], k, j, p, p', v, h, _, _ => by simp at h
  | q :: L, 0, j, p, p', v, h, hj, hc => by
    simp at h
    subst h
    show (q.cells.toList ++ ocells L).set (0 * 7 + j) v = p'.cells.toList ++ ocells L
    rw [Nat.zero_mul, Nat.zero_add, List.set_append_left _ _ (by simp; omega), hc]
  | q :: L, k + 1, j, p, p', v, h, hj, hc => by
    have ih := ocells_set (L := L) (k := k) (by simpa using h) hj hc
    show (q.cells.toList ++ ocells L).set ((k + 1) * 7 + j) v = q.cells.toList ++ ocells (L.set k p')
    rw [List.set_append_right _ _ (by simp; omega)]
    have hl : p.cells.toList.length = 7 := rfl
    have hq : q.cells.toList.length = 7 := rfl
    have he : (k + 1) * 7 + j - q.cells.toList.length = k * 7 + j := by rw [hq]; omega
    rw [he, ih]
/-- a history in memory while it is made -/
structure RM (W : World) (B n : Nat) (ba : Option Addr) (bc : Nat) (b : List Nat) (la : Option Addr) (m lc : Nat) (L : List Opv) (dss : List (List Nat)) (sb : Nat) (st : List Nat) (ov : Value) (ord : List Nat) : Prop where
  lrow : W.ownsRow B 50 7 (.slice la m lc) m (ocells L)
  srow : W.ownsRow B 3 1 (.slice (some ⟨sb, 0, none⟩) m m) m (st.map iv)
  orow : W.ownsRow B 3 1 ov ord.length (ord.map iv)
  brow : BRow W ba bc b
  bcap : n ≤ bc
  blen : b.length = n
  data : ∀ (k : Nat) (p : Opv) (ds : List Nat), L[k]? = some p → dss[k]? = some ds → BRow W p.da p.dc ds ∧ ds.length = p.n
  dfree : ∀ (k : Nat) (p : Opv), L[k]? = some p → ∀ a, p.da = some a → a.block < W.heap.size ∧ (Value.slice la m lc).ownBlock ≠ some a.block ∧ a.block ≠ sb ∧ ov.ownBlock ≠ some a.block
  bfree : ∀ a, ba = some a → a.block < W.heap.size ∧ (Value.slice la m lc).ownBlock ≠ some a.block ∧ a.block ≠ sb ∧ ov.ownBlock ≠ some a.block
  os : ov.ownBlock ≠ some sb
theorem RM.ls {W : World} {B n bc m lc sb : Nat} {ba la : Option Addr} {b : List Nat} {L : List Opv} {dss : List (List Nat)} {st ord : List Nat} {ov : Value} (h : RM W B n ba bc b la m lc L dss sb st ov ord) : (Value.slice la m lc).ownBlock ≠ some sb := fun e => by
  rcases h.lrow.2 with ⟨h0, _⟩ | ⟨g, cap, cur, hv, hb, hg, _⟩
  · rw [h0] at e; cases e
  · rw [hv] at e
    cases e
    obtain ⟨cu, h2⟩ := owns_type h.srow g rfl
    rw [hg] at h2; cases h2
theorem RM.ol {W : World} {B n bc m lc sb : Nat} {ba la : Option Addr} {b : List Nat} {L : List Opv} {dss : List (List Nat)} {st ord : List Nat} {ov : Value} (h : RM W B n ba bc b la m lc L dss sb st ov ord) {g : Nat} (e : (Value.slice la m lc).ownBlock = some g) : ov.ownBlock ≠ some g := fun e2 => by
  obtain ⟨cu, h2⟩ := owns_type h.orow g e2
  rcases h.lrow.2 with ⟨h0, _⟩ | ⟨g', cap, cur, hv, hb, hg, _⟩
  · rw [h0] at e; cases e
  · rw [hv] at e
    cases e
    rw [hg] at h2; cases h2
theorem brow_far {W V : World} {ao : Option Addr} {c : Nat} {l : List Nat} {row : Option Nat} (h : BRow W ao c l) (hg : W.grownBy V row) (hne : ∀ a, ao = some a → row ≠ some a.block) : BRow V ao c l :=
  ⟨h.lt, h.len, h.nil, fun hl => by
    obtain ⟨b, off, e, hc⟩ := h.at_ hl
    exact ⟨b, off, e, fun k hk => hg.cell (hc k hk) (fun e2 => hne _ e e2.symm)⟩⟩
theorem owns7_far {w w' : World} {base n : Nat} {v : Value} {xs : List Value} {row : Option Nat} (h : w.ownsRow base 50 7 v n xs) (hg : w.grownBy w' row) (hne : ∀ g, v.ownBlock = some g → some g ≠ row) : w'.ownsRow base 50 7 v n xs :=
  rows_same h fun g e => hg.block g (owns_in h e).2 (hne g e)
theorem RM.later {W V : World} {B n bc m lc sb : Nat} {ba la : Option Addr} {b : List Nat} {L : List Opv} {dss : List (List Nat)} {st ord : List Nat} {ov : Value} (h : RM W B n ba bc b la m lc L dss sb st ov ord) (hb : Below W.heap.size W V) : RM V B n ba bc b la m lc L dss sb st ov ord where
  lrow := rows_same h.lrow fun g e => hb.block g (owns_in h.lrow e).2
  srow := owns_same h.srow fun g e => hb.block g (owns_in h.srow e).2
  orow := owns_same h.orow fun g e => hb.block g (owns_in h.orow e).2
  brow := h.brow.later hb
  bcap := h.bcap
  blen := h.blen
  data k p ds h1 h2 := ⟨(h.data k p ds h1 h2).1.later hb, (h.data k p ds h1 h2).2⟩
  dfree k p h1 a e := by obtain ⟨x1, x2, x3, x4⟩ := h.dfree k p h1 a e; exact ⟨Nat.lt_of_lt_of_le x1 hb.size, x2, x3, x4⟩
  bfree a e := by obtain ⟨x1, x2, x3, x4⟩ := h.bfree a e; exact ⟨Nat.lt_of_lt_of_le x1 hb.size, x2, x3, x4⟩
  os := h.os
/-- an operation's field is written over -/
theorem RM.setL {W : World} {B n bc m lc sb lb : Nat} {ba : Option Addr} {b : List Nat} {L : List Opv} {dss : List (List Nat)} {st ord : List Nat} {ov : Value} (h : RM W B n ba bc b (some ⟨lb, 0, none⟩) m lc L dss sb st ov ord) {k j : Nat} {p p' : Opv} {v : Value} (hk : k < m) (hp : L[k]? = some p) (hj : j < 7) (hc : p.cells.toList.set j v = p'.cells.toList) {ds' : List Nat} (hd : BRow W p'.da p'.dc ds' ∧ ds'.length = p'.n) (hdf : ∀ a, p'.da = some a → a.block < W.heap.size ∧ a.block ≠ lb ∧ a.block ≠ sb ∧ ov.ownBlock ≠ some a.block) : RM (W.setCell ⟨lb, k * 7 + j, none⟩ v) B n ba bc b (some ⟨lb, 0, none⟩) m lc (L.set k p') (dss.set k ds') sb st ov ord where
  lrow := by
    have h1 := own7_set h.lrow v (j := k * 7 + j) (by omega)
    rw [ocells_set hp hj hc] at h1; exact h1
  srow := owns_far h.srow (grown_setCell v) (fun g e e2 => h.ls (by cases e; exact e2.symm))
  orow := owns_far h.orow (grown_setCell v) (fun g e e2 => h.ol rfl (by rw [e, e2]))
  brow := brow_far h.brow (grown_setCell v) (fun a e e2 => (h.bfree a e).2.1 e2)
  bcap := h.bcap
  blen := h.blen
  data i q es h1 h2 := by
    rcases set_cases h1 with ⟨rfl, rfl⟩ | ⟨e, h3⟩
    · rcases set_cases h2 with ⟨_, rfl⟩ | ⟨e, _⟩
      · exact ⟨brow_far hd.1 (grown_setCell v) (fun a e e2 => (hdf a e).2.1 (Option.some.inj e2).symm), hd.2⟩
      · exact absurd rfl e
    · rw [List.getElem?_set_ne (fun e2 => e e2.symm)] at h2
      exact ⟨brow_far (h.data i q es h3 h2).1 (grown_setCell v) (fun a e e2 => (h.dfree i q h3 a e).2.1 e2), (h.data i q es h3 h2).2⟩
  dfree i q h1 a e := by
    rw [World.size_setCell]
    rcases set_cases h1 with ⟨rfl, rfl⟩ | ⟨_, h3⟩
    · obtain ⟨x1, x2, x3, x4⟩ := hdf a e
      exact ⟨x1, fun e2 => x2 (Option.some.inj e2).symm, x3, x4⟩
    · exact h.dfree i q h3 a e
  bfree a e := by rw [World.size_setCell]; exact h.bfree a e
  os := h.os
theorem RM.setS {W : World} {B n bc m lc sb : Nat} {ba la : Option Addr} {b : List Nat} {L : List Opv} {dss : List (List Nat)} {st ord : List Nat} {ov : Value} (h : RM W B n ba bc b la m lc L dss sb st ov ord) {k : Nat} (hk : k < m) (s : Nat) : RM (W.setCell ⟨sb, k, none⟩ (.int .i64 (s : Int))) B n ba bc b la m lc L dss sb (st.set k s) ov ord where
  lrow := owns7_far h.lrow (grown_setCell _) (fun g e e2 => h.ls (by rw [e, e2]))
  srow := by
    have h1 := own_set h.srow (iv s) hk
    rw [List.map_set]; exact h1
  orow := owns_far h.orow (grown_setCell _) (fun g e e2 => h.os (by rw [e, e2]))
  brow := brow_far h.brow (grown_setCell _) (fun a e e2 => (h.bfree a e).2.2.1 (Option.some.inj e2).symm)
  bcap := h.bcap
  blen := h.blen
  data i q es h1 h2 := ⟨brow_far (h.data i q es h1 h2).1 (grown_setCell _) (fun a e e2 => (h.dfree i q h1 a e).2.2.1 (Option.some.inj e2).symm), (h.data i q es h1 h2).2⟩
  dfree i q h1 a e := by rw [World.size_setCell]; exact h.dfree i q h1 a e
  bfree a e := by rw [World.size_setCell]; exact h.bfree a e
  os := h.os
/-- other bytes -/
theorem RM.bytes {W : World} {B n bc bc' m lc sb : Nat} {ba ba' la : Option Addr} {b b' : List Nat} {L : List Opv} {dss : List (List Nat)} {st ord : List Nat} {ov : Value} (h : RM W B n ba bc b la m lc L dss sb st ov ord) (h1 : BRow W ba' bc' b') (h2 : n ≤ bc') (h3 : b'.length = n) (h4 : ∀ a, ba' = some a → a.block < W.heap.size ∧ (Value.slice la m lc).ownBlock ≠ some a.block ∧ a.block ≠ sb ∧ ov.ownBlock ≠ some a.block) : RM W B n ba' bc' b' la m lc L dss sb st ov ord :=
  ⟨h.lrow, h.srow, h.orow, h1, h2, h3, h.data, h.dfree, h4, h.os⟩
/-- one more in the order -/
theorem RM.push {W X V : World} {B n bc m lc sb k : Nat} {ba la : Option Addr} {b : List Nat} {L : List Opv} {dss : List (List Nat)} {st ord : List Nat} {ov ov' : Value} (h : RM W B n ba bc b la m lc L dss sb st ov ord) (hX : Below W.heap.size W X) (hg : X.grownBy V ov.ownBlock) (ho : V.ownsRow B 3 1 ov' (ord.length + 1) (ord.map iv ++ [iv k])) (hf : Fresh X ov ov') : RM V B n ba bc b la m lc L dss sb st ov' (ord ++ [k]) := by
  have hx := h.later hX
  have hno : ∀ g, g < W.heap.size → ov.ownBlock ≠ some g → ov'.ownBlock ≠ some g := fun g hg1 hg2 e => by
    rcases hf with h1 | ⟨g2, h1, h2⟩
    · rw [h1] at e; exact hg2 e
    · rw [h1] at e
      have := Option.some.inj e
      have := hX.size
      omega
  have hsz : W.heap.size ≤ V.heap.size := Nat.le_trans hX.size hg.size
  refine ⟨?_, ?_, ?_, ?_, h.bcap, h.blen, fun i q es h1 h2 => ?_, fun i q h1 a e => ?_, fun a e => ?_, ?_⟩
  · exact owns7_far hx.lrow hg (fun g e e2 => hx.ol e e2.symm)
  · exact owns_far hx.srow hg (fun g e e2 => hx.os (by cases e; exact e2.symm))
  · rw [List.length_append, List.map_append]; exact ho
  · exact brow_far hx.brow hg (fun a e e2 => (hx.bfree a e).2.2.2 e2)
  · exact ⟨brow_far (hx.data i q es h1 h2).1 hg (fun a e e2 => (hx.dfree i q h1 a e).2.2.2 e2), (hx.data i q es h1 h2).2⟩
  · obtain ⟨x1, x2, x3, x4⟩ := h.dfree i q h1 a e
    exact ⟨Nat.lt_of_lt_of_le x1 hsz, x2, x3, hno _ x1 x4⟩
  · obtain ⟨x1, x2, x3, x4⟩ := h.bfree a e
    exact ⟨Nat.lt_of_lt_of_le x1 hsz, x2, x3, hno _ x1 x4⟩
  · exact hno sb (owns_in h.srow rfl).2 h.os
end Go.Proofs.Ytjkoambfecmglaa

namespace Go.Proofs.Ytjkoambfecmglaa
open Go.RowKit
set_option linter.unusedVariables false
set_option linter.unusedSimpArgs false
set_option maxRecDepth 100000
theorem below_drew (b : Nat) (W : World) : Below b W W.drew := ⟨rfl, rfl, rfl, Nat.le_refl _, fun _ _ => rfl⟩
theorem set_kept {α : Type} {l : List α} {k : Nat} {x : α} (h : l[k]? = some x) : l.set k x = l := by
  apply List.ext_getElem?
  intro j
  by_cases e : k = j
  · subst e; rw [List.getElem?_set_self (List.getElem?_eq_some_iff.1 h).1, h]
  · rw [List.getElem?_set_ne e]
theorem set_got {α : Type} {l : List α} {k : Nat} {x : α} (y : α) (h : l[k]? = some x) : (l.set k y)[k]? = some y := List.getElem?_set_self (List.getElem?_eq_some_iff.1 h).1
/-- where the data of an operation lie -/
theorem RM.dfr {W : World} {B n bc m lc sb lb : Nat} {ba : Option Addr} {b : List Nat} {L : List Opv} {dss : List (List Nat)} {st ord : List Nat} {ov : Value} (h : RM W B n ba bc b (some ⟨lb, 0, none⟩) m lc L dss sb st ov ord) {k : Nat} {p : Opv} (hp : L[k]? = some p) : ∀ a, p.da = some a → a.block < W.heap.size ∧ a.block ≠ lb ∧ a.block ≠ sb ∧ ov.ownBlock ≠ some a.block := fun a e => by
  obtain ⟨x1, x2, x3, x4⟩ := h.dfree k p hp a e
  exact ⟨x1, fun e2 => x2 (by rw [e2]; rfl), x3, x4⟩
/-- a field that is not the data is written over -/
theorem RM.setF {W : World} {B n bc m lc sb lb : Nat} {ba : Option Addr} {b : List Nat} {L : List Opv} {dss : List (List Nat)} {st ord : List Nat} {ov : Value} (h : RM W B n ba bc b (some ⟨lb, 0, none⟩) m lc L dss sb st ov ord) {k j : Nat} {p p' : Opv} {v : Value} {ds : List Nat} (hk : k < m) (hp : L[k]? = some p) (hd : dss[k]? = some ds) (hj : j < 7) (hc : p.cells.toList.set j v = p'.cells.toList) (e1 : p'.da = p.da) (e2 : p'.n = p.n) (e3 : p'.dc = p.dc) : RM (W.setCell ⟨lb, k * 7 + j, none⟩ v) B n ba bc b (some ⟨lb, 0, none⟩) m lc (L.set k p') dss sb st ov ord := by
  have h1 := h.setL hk hp hj hc (ds' := ds) (by rw [e1, e2, e3]; exact h.data k p ds hp hd) (by rw [e1]; exact h.dfr hp)
  rw [set_kept hd] at h1; exact h1
/-- an operation is written over whole, and then From -/
theorem RM.ask {W : World} {B n bc m lc sb lb : Nat} {ba : Option Addr} {b : List Nat} {L : List Opv} {dss : List (List Nat)} {st ord : List Nat} {ov : Value} (h : RM W B n ba bc b (some ⟨lb, 0, none⟩) m lc L dss sb st ov ord) {k : Nat} {p q : Opv} {ds ds' : List Nat} (hk : k < m) (hp : L[k]? = some p) (hd : dss[k]? = some ds) (hq : BRow W q.da q.dc ds' ∧ ds'.length = q.n) (hqf : ∀ a, q.da = some a → a.block < W.heap.size ∧ a.block ≠ lb ∧ a.block ≠ sb ∧ ov.ownBlock ≠ some a.block) (t : Int) :
    RM ((((((((W.setCell ⟨lb, k * 7, none⟩ (.int .i64 q.k)).setCell ⟨lb, k * 7 + 1, none⟩ (.int .i64 q.fr)).setCell ⟨lb, k * 7 + 2, none⟩ (.int .i64 q.to_)).setCell ⟨lb, k * 7 + 3, none⟩ (.int .i64 q.off)).setCell ⟨lb, k * 7 + 4, none⟩ (.int .i64 q.len)).setCell ⟨lb, k * 7 + 5, none⟩ (.slice q.da q.n q.dc)).setCell ⟨lb, k * 7 + 6, none⟩ (.bool q.sy)).setCell ⟨lb, k * 7 + 1, none⟩ (.int .i64 t)) B n ba bc b (some ⟨lb, 0, none⟩) m lc (L.set k ⟨q.k, t, q.to_, q.off, q.len, q.da, q.n, q.dc, q.sy⟩) (dss.set k ds') sb st ov ord := by
  have h0 := h.setF (j := 0) (p' := ⟨q.k, p.fr, p.to_, p.off, p.len, p.da, p.n, p.dc, p.sy⟩) (v := .int .i64 q.k) hk hp hd (by decide) rfl rfl rfl rfl
  have h1 := h0.setF (j := 1) (p' := ⟨q.k, q.fr, p.to_, p.off, p.len, p.da, p.n, p.dc, p.sy⟩) (v := .int .i64 q.fr) hk (set_got _ hp) hd (by decide) rfl rfl rfl rfl
  rw [List.set_set] at h1
  have h2 := h1.setF (j := 2) (p' := ⟨q.k, q.fr, q.to_, p.off, p.len, p.da, p.n, p.dc, p.sy⟩) (v := .int .i64 q.to_) hk (set_got _ hp) hd (by decide) rfl rfl rfl rfl
  rw [List.set_set] at h2
  have h3 := h2.setF (j := 3) (p' := ⟨q.k, q.fr, q.to_, q.off, p.len, p.da, p.n, p.dc, p.sy⟩) (v := .int .i64 q.off) hk (set_got _ hp) hd (by decide) rfl rfl rfl rfl
  rw [List.set_set] at h3
  have h4 := h3.setF (j := 4) (p' := ⟨q.k, q.fr, q.to_, q.off, q.len, p.da, p.n, p.dc, p.sy⟩) (v := .int .i64 q.len) hk (set_got _ hp) hd (by decide) rfl rfl rfl rfl
  rw [List.set_set] at h4
  have hfar : ∀ (V : World) (j : Nat) (v : Value), (BRow V q.da q.dc ds' ∧ ds'.length = q.n) → BRow (V.setCell ⟨lb, j, none⟩ v) q.da q.dc ds' ∧ ds'.length = q.n := fun V j v hV => ⟨brow_far hV.1 (grown_setCell v) (fun a e e2 => (hqf a e).2.1 (Option.some.inj e2).symm), hV.2⟩
  have h5 := h4.setL (j := 5) (p' := ⟨q.k, q.fr, q.to_, q.off, q.len, q.da, q.n, q.dc, p.sy⟩) (v := .slice q.da q.n q.dc) (ds' := ds') hk (set_got _ hp) (by decide) rfl (hfar _ _ _ (hfar _ _ _ (hfar _ _ _ (hfar _ _ _ (hfar _ _ _ hq))))) (fun a e => by simp only [World.size_setCell]; exact hqf a e)
  rw [List.set_set] at h5
  have h6 := h5.setF (j := 6) (p' := ⟨q.k, q.fr, q.to_, q.off, q.len, q.da, q.n, q.dc, q.sy⟩) (v := .bool q.sy) hk (set_got _ hp) (set_got _ hd) (by decide) rfl rfl rfl rfl
  rw [List.set_set] at h6
  have h7 := h6.setF (j := 1) (p' := ⟨q.k, t, q.to_, q.off, q.len, q.da, q.n, q.dc, q.sy⟩) (v := .int .i64 t) hk (set_got _ hp) (set_got _ hd) (by decide) rfl rfl rfl rfl
  rw [List.set_set] at h7
  exact h7
/-- one is done -/
theorem Askd.did {n t : Nat} {p : Opv} {ds : List Nat} (h : Askd n t 1 p ds) (hk : p.k ≠ 1) : Askd n (t + 1) 2 p ds where
  k1 := h.k1
  k4 := h.k4
  fr0 := h.fr0
  frt := by have := h.frt; omega
  off0 := h.off0
  len0 := h.len0
  inn := h.inn
  fl := h.fl
  dl := h.dl
  w := h.w
  r1 e := absurd e hk
  r2 e := absurd e hk
  o := h.o
  un _ := h.un (by decide)
  an e := absurd e (by decide)
  sy := h.sy
/-- a read is done: it notes what it tells -/
theorem Askd.read {n t : Nat} {p : Opv} {ds ds' : List Nat} (h : Askd n t 1 p ds) (hk : p.k = 1) (da : Option Addr) (m dc : Nat) (hm : p.len = (m : Int)) (hl : ds'.length = m) : Askd n (t + 1) 2 ⟨p.k, p.fr, p.to_, p.off, p.len, da, m, dc, p.sy⟩ ds' where
  k1 := h.k1
  k4 := h.k4
  fr0 := h.fr0
  frt := by have := h.frt; show p.fr < _; omega
  off0 := h.off0
  len0 := h.len0
  inn := h.inn
  fl := h.fl
  dl := hl
  w e := absurd (hk.symm.trans e) (by decide)
  r1 _ e := absurd e (by decide)
  r2 _ _ := hm.symm
  o e := by rcases e with e | e <;> exact absurd (hk.symm.trans e) (by decide)
  un _ := h.un (by decide)
  an e := absurd e (by decide)
  sy := h.sy
/-- one is answered -/
theorem Askd.tell {n t : Nat} {p : Opv} {ds : List Nat} (h : Askd n t 2 p ds) (da : Option Addr) (dc : Nat) (sy : Bool) (hs : sy = true → p.k ≠ 1) : Askd n (t + 1) 3 ⟨p.k, p.fr, (t : Int), p.off, p.len, da, p.n, dc, sy⟩ ds where
  k1 := h.k1
  k4 := h.k4
  fr0 := h.fr0
  frt := by have := h.frt; show p.fr < _; omega
  off0 := h.off0
  len0 := h.len0
  inn := h.inn
  fl := h.fl
  dl := h.dl
  w := h.w
  r1 _ e := absurd e (by decide)
  r2 e _ := h.r2 e (by decide)
  o := h.o
  un e := absurd e (by decide)
  an _ := ⟨by have := h.frt; show p.fr ≤ (t : Int); omega, by show (t : Int) < ((t + 1 : Nat) : Int); omega⟩
  sy := hs
/-- a history while it is made, in memory and as mathematics -/
structure RW (w : World) (B n m : Nat) (la : Option Addr) (lc sb t : Nat) (first : List Nat) (W : World) (ba : Option Addr) (bc : Nat) (ov : Value) (L : List Opv) (dss : List (List Nat)) (st ord b : List Nat) : Prop where
  bel : Below w.heap.size w W
  rm : RM W B n ba bc b la m lc L dss sb st ov ord
  rs : RS n t first L dss st ord b
  lm : L.length = m
  wb : w.heap.size ≤ B
theorem RW.at_ {w : World} {B n m lb lc sb t : Nat} {first : List Nat} {W : World} {ba : Option Addr} {bc : Nat} {ov : Value} {L : List Opv} {dss : List (List Nat)} {st ord b : List Nat} (h : RW w B n m (some ⟨lb, 0, none⟩) lc sb t first W ba bc ov L dss st ord b) {k : Nat} (hk : k < m) : ∃ s p ds, s ≤ 3 ∧ st[k]? = some s ∧ L[k]? = some p ∧ dss[k]? = some ds ∧ (∀ j v, p.cells[j]? = some v → W.cell? ⟨lb, k * 7 + j, none⟩ = some v) ∧ (∀ j, W.frozen? ⟨lb, j, none⟩ = false) ∧ W.cell? ⟨sb, k, none⟩ = some (.int .i64 (s : Int)) ∧ (∀ j, W.frozen? ⟨sb, j, none⟩ = false) ∧ lb < W.heap.size ∧ sb < W.heap.size ∧ BRow W p.da p.dc ds ∧ ds.length = p.n := by
  obtain ⟨s, p, ds, h1, h2, h3⟩ := h.rs.stage (a := k) (by rw [h.lm]; exact hk)
  obtain ⟨g, e1, hg1, hg2, hc1, hf1⟩ := own7_some h.rm.lrow (by omega)
  have e1' : lb = g := by simpa using e1
  subst e1'
  obtain ⟨g, e2, hg3, hc2, hf2⟩ := own_some h.rm.srow (by omega)
  have e2' : sb = g := by simpa using e2
  subst e2'
  refine ⟨s, p, ds, h.rs.s3 k s h1, h1, h2, h3, fun j v hv => ?_, hf1, ?_, hf2, hg2, (owns_in h.rm.srow rfl).2, (h.rm.data k p ds h2 h3).1, (h.rm.data k p ds h2 h3).2⟩
  · have hj : j < 7 := by
      have := (Array.getElem?_eq_some_iff.1 hv).1
      simpa using this
    rw [hc1 _ (by omega)]
    rw [ocells_at L k j p h2 hj]; exact hv
  · rw [hc2 k hk, List.getElem?_map, h1]; rfl
theorem RW.lbB {w : World} {B n m lb lc sb t : Nat} {first : List Nat} {W : World} {ba : Option Addr} {bc : Nat} {ov : Value} {L : List Opv} {dss : List (List Nat)} {st ord b : List Nat} (h : RW w B n m (some ⟨lb, 0, none⟩) lc sb t first W ba bc ov L dss st ord b) (hm : 0 < m) : w.heap.size ≤ lb ∧ lb < W.heap.size ∧ w.heap.size ≤ sb ∧ sb < W.heap.size := by
  obtain ⟨g, e1, hg1, hg2, hc1, hf1⟩ := own7_some h.rm.lrow hm
  have e1' : lb = g := by simpa using e1
  subst e1'
  have h2 := owns_in h.rm.srow (g := sb) rfl
  exact ⟨Nat.le_trans h.wb hg1, hg2, Nat.le_trans h.wb h2.1, h2.2⟩
theorem RW.fresh {w : World} {B n m lb lc sb t : Nat} {first : List Nat} {W : World} {ba : Option Addr} {bc : Nat} {ov : Value} {L : List Opv} {dss : List (List Nat)} {st ord b : List Nat} (h : RW w B n m (some ⟨lb, 0, none⟩) lc sb t first W ba bc ov L dss st ord b) (hm : 0 < m) {a : Addr} (ha : W.heap.size ≤ a.block) : a.block ≠ lb ∧ a.block ≠ sb ∧ ov.ownBlock ≠ some a.block ∧ (Value.slice (some ⟨lb, 0, none⟩) m lc).ownBlock ≠ some a.block := by
  have h1 := h.lbB hm
  refine ⟨by omega, by omega, fun e => ?_, fun e => ?_⟩
  · have := (owns_in h.rm.orow e).2; omega
  · have : lb = a.block := Option.some.inj e
    omega
/-- the answer's stage -/
theorem RW.stg {w : World} {B n m lb lc sb t : Nat} {first : List Nat} {W : World} {ba : Option Addr} {bc : Nat} {ov : Value} {L : List Opv} {dss : List (List Nat)} {st ord b : List Nat} (h : RW w B n m (some ⟨lb, 0, none⟩) lc sb t first W ba bc ov L dss st ord b) (hm : 0 < m) {k : Nat} (hk : k < m) (s t' : Nat) (hs : RS n t' first L dss (st.set k s) ord b) : RW w B n m (some ⟨lb, 0, none⟩) lc sb t' first (W.setCell ⟨sb, k, none⟩ (.int .i64 (s : Int))) ba bc ov L dss (st.set k s) ord b :=
  ⟨h.bel.setCell (p := ⟨sb, k, none⟩) (h.lbB hm).2.2.1 _, h.rm.setS hk s, hs, h.lm, h.wb⟩
theorem RW.over {w : World} {B n m lb lc sb t : Nat} {first : List Nat} {W : World} {ba : Option Addr} {bc : Nat} {ov : Value} {L : List Opv} {dss : List (List Nat)} {st ord b : List Nat} (h : RW w B n m (some ⟨lb, 0, none⟩) lc sb t first W ba bc ov L dss st ord b) (hm : 0 < m) {k : Nat} (hk : k < m) (h3 : st[k]? = some 3) : RW w B n m (some ⟨lb, 0, none⟩) lc sb (t + 1) first (W.setCell ⟨sb, k, none⟩ (.int .i64 3)) ba bc ov L dss st ord b := by
  have h1 := h.rs.next
  have h2 := h.stg hm hk 3 (t + 1) (by rw [set_kept h3]; exact h1)
  rw [set_kept h3] at h2; exact h2
/-- one is asked -/
theorem RW.asks {w : World} {B n m lb lc sb t : Nat} {first : List Nat} {W : World} {ba : Option Addr} {bc : Nat} {ov : Value} {L : List Opv} {dss : List (List Nat)} {st ord b : List Nat} (h : RW w B n m (some ⟨lb, 0, none⟩) lc sb t first W ba bc ov L dss st ord b) (hm : 0 < m) {k : Nat} (hk : k < m) (h0 : st[k]? = some 0) {p q : Opv} {ds ds' : List Nat} (hp : L[k]? = some p) (hd : dss[k]? = some ds) {W1 : World} (hb : Below W.heap.size W W1) (hq : FitQ n q ds') (hr : BRow W1 q.da q.dc ds') (ha : ∀ a, q.da = some a → W.heap.size ≤ a.block ∧ a.block < W1.heap.size) :
    RW w B n m (some ⟨lb, 0, none⟩) lc sb (t + 1) first (((((((((W1.setCell ⟨lb, k * 7, none⟩ (.int .i64 q.k)).setCell ⟨lb, k * 7 + 1, none⟩ (.int .i64 q.fr)).setCell ⟨lb, k * 7 + 2, none⟩ (.int .i64 q.to_)).setCell ⟨lb, k * 7 + 3, none⟩ (.int .i64 q.off)).setCell ⟨lb, k * 7 + 4, none⟩ (.int .i64 q.len)).setCell ⟨lb, k * 7 + 5, none⟩ (.slice q.da q.n q.dc)).setCell ⟨lb, k * 7 + 6, none⟩ (.bool q.sy)).setCell ⟨lb, k * 7 + 1, none⟩ (.int .i64 (t : Int))).setCell ⟨sb, k, none⟩ (.int .i64 1)) ba bc ov (L.set k ⟨q.k, (t : Int), q.to_, q.off, q.len, q.da, q.n, q.dc, q.sy⟩) (dss.set k ds') (st.set k 1) ord b := by
  have hl := h.lbB hm
  have h1 := (h.rm.later hb).ask hk hp hd ⟨hr, hq.dl⟩ (fun a e => ⟨(ha a e).2, (h.fresh hm (ha a e).1).1, (h.fresh hm (ha a e).1).2.1, (h.fresh hm (ha a e).1).2.2.1⟩) (t : Int)
  have hB := h.bel.trans (hb.mono h.bel.size)
  exact ⟨((((((((hB.setCell (p := ⟨lb, k * 7, none⟩) hl.1 _).setCell (p := ⟨lb, k * 7 + 1, none⟩) hl.1 _).setCell (p := ⟨lb, k * 7 + 2, none⟩) hl.1 _).setCell (p := ⟨lb, k * 7 + 3, none⟩) hl.1 _).setCell (p := ⟨lb, k * 7 + 4, none⟩) hl.1 _).setCell (p := ⟨lb, k * 7 + 5, none⟩) hl.1 _).setCell (p := ⟨lb, k * 7 + 6, none⟩) hl.1 _).setCell (p := ⟨lb, k * 7 + 1, none⟩) hl.1 _).setCell (p := ⟨sb, k, none⟩) hl.2.2.1 _, h1.setS hk 1, h.rs.asked h0 (hq.askd t), by rw [List.length_set]; exact h.lm, h.wb⟩
/-- one is done, no read -/
theorem RW.does {w : World} {B n m lb lc sb t : Nat} {first : List Nat} {W : World} {ba : Option Addr} {bc : Nat} {ov : Value} {L : List Opv} {dss : List (List Nat)} {st ord b : List Nat} (h : RW w B n m (some ⟨lb, 0, none⟩) lc sb t first W ba bc ov L dss st ord b) (hm : 0 < m) {k : Nat} (hk : k < m) (h0 : st[k]? = some 1) {p : Opv} {ds cs : List Nat} (hp : L[k]? = some p) (hd : dss[k]? = some ds) (hk1 : p.k ≠ 1) {W1 X V : World} {co : Option Addr} {cc : Nat} {ov' : Value} (hcs : p.eff b ds = cs) (hb : Below W.heap.size W W1) (hr : BRow W1 co cc cs) (hn : cs.length = n) (hcc : n ≤ cc) (ha : ∀ a, co = some a → W.heap.size ≤ a.block ∧ a.block < W1.heap.size) (hX : Below W1.heap.size W1 X) (hg : X.grownBy V ov.ownBlock) (ho : V.ownsRow B 3 1 ov' (ord.length + 1) (ord.map iv ++ [iv k])) (hf : Fresh X ov ov') :
    RW w B n m (some ⟨lb, 0, none⟩) lc sb (t + 1) first (V.setCell ⟨sb, k, none⟩ (.int .i64 2)) co cc ov' L dss (st.set k 2) (ord ++ [k]) cs := by
  have hl := h.lbB hm
  have h1 := ((h.rm.later hb).bytes hr hcc hn (fun a e => ⟨(ha a e).2, (h.fresh hm (ha a e).1).2.2.2, (h.fresh hm (ha a e).1).2.1, (h.fresh hm (ha a e).1).2.2.1⟩)).push hX hg ho hf
  have hB := h.bel.trans (hb.mono h.bel.size)
  have hB2 := (hB.trans (hX.mono hB.size)).grown hg (Nat.le_trans hB.size hX.size) (fun g e => Nat.le_trans h.wb (owns_in h.rm.orow e).1)
  have h2 := h.rs.done h0 ((h.rs.ask k 1 p ds h0 (by decide) hp hd).did hk1) (fun e => absurd e hk1)
  rw [set_kept hp, set_kept hd, hcs] at h2
  exact ⟨hB2.setCell (p := ⟨sb, k, none⟩) hl.2.2.1 _, h1.setS hk 2, h2, h.lm, h.wb⟩
/-- a read is done -/
theorem RW.reads {w : World} {B n m lb lc sb t : Nat} {first : List Nat} {W : World} {ba : Option Addr} {bc : Nat} {ov : Value} {L : List Opv} {dss : List (List Nat)} {st ord b : List Nat} (h : RW w B n m (some ⟨lb, 0, none⟩) lc sb t first W ba bc ov L dss st ord b) (hm : 0 < m) {k : Nat} (hk : k < m) (h0 : st[k]? = some 1) {p : Opv} {ds : List Nat} (hp : L[k]? = some p) (hd : dss[k]? = some ds) (hk1 : p.k = 1) {U X V : World} {co da : Option Addr} {cc mm dc : Nat} {ov' : Value} (hmm : p.len = (mm : Int)) (hb : Below W.heap.size W U) (hr : BRow U co cc b) (hcc : n ≤ cc) (ha : ∀ a, co = some a → W.heap.size ≤ a.block ∧ a.block < U.heap.size) (hr2 : BRow U da dc ((b.drop p.off.toNat).take p.len.toNat)) (hl2 : ((b.drop p.off.toNat).take p.len.toNat).length = mm) (ha2 : ∀ a, da = some a → W.heap.size ≤ a.block ∧ a.block < U.heap.size) (hX : Below (U.setCell ⟨lb, k * 7 + 5, none⟩ (.slice da mm dc)).heap.size (U.setCell ⟨lb, k * 7 + 5, none⟩ (.slice da mm dc)) X) (hg : X.grownBy V ov.ownBlock) (ho : V.ownsRow B 3 1 ov' (ord.length + 1) (ord.map iv ++ [iv k])) (hf : Fresh X ov ov') :
    RW w B n m (some ⟨lb, 0, none⟩) lc sb (t + 1) first (V.setCell ⟨sb, k, none⟩ (.int .i64 2)) co cc ov' (L.set k ⟨p.k, p.fr, p.to_, p.off, p.len, da, mm, dc, p.sy⟩) (dss.set k ((b.drop p.off.toNat).take p.len.toNat)) (st.set k 2) (ord ++ [k]) b := by
  have hl := h.lbB hm
  have h1 := ((h.rm.later hb).bytes hr hcc h.rm.blen (fun a e => ⟨(ha a e).2, (h.fresh hm (ha a e).1).2.2.2, (h.fresh hm (ha a e).1).2.1, (h.fresh hm (ha a e).1).2.2.1⟩)).setL (j := 5) (p' := ⟨p.k, p.fr, p.to_, p.off, p.len, da, mm, dc, p.sy⟩) (v := .slice da mm dc) hk hp (by decide) rfl ⟨hr2, hl2⟩ (fun a e => ⟨(ha2 a e).2, (h.fresh hm (ha2 a e).1).1, (h.fresh hm (ha2 a e).1).2.1, (h.fresh hm (ha2 a e).1).2.2.1⟩)
  have h3 := h1.push hX hg ho hf
  have hB := (h.bel.trans (hb.mono h.bel.size)).setCell (p := ⟨lb, k * 7 + 5, none⟩) hl.1 (.slice da mm dc)
  have hB2 := (hB.trans (hX.mono hB.size)).grown hg (Nat.le_trans hB.size hX.size) (fun g e => Nat.le_trans h.wb (owns_in h.rm.orow e).1)
  have h2 := h.rs.done h0 ((h.rs.ask k 1 p ds h0 (by decide) hp hd).read hk1 da mm dc hmm hl2) (fun _ => rfl)
  have h4 : (⟨p.k, p.fr, p.to_, p.off, p.len, da, mm, dc, p.sy⟩ : Opv).eff b ((b.drop p.off.toNat).take p.len.toNat) = b := by
    unfold Opv.eff
    rw [if_neg (by show ¬ p.k = 2; omega), if_neg (by show ¬ p.k = 3; omega)]
  rw [h4] at h2
  exact ⟨hB2.setCell (p := ⟨sb, k, none⟩) hl.2.2.1 _, h3.setS hk 2, h2, by rw [List.length_set]; exact h.lm, h.wb⟩
/-- one is answered, no read -/
theorem RW.tells {w : World} {B n m lb lc sb t : Nat} {first : List Nat} {W : World} {ba : Option Addr} {bc : Nat} {ov : Value} {L : List Opv} {dss : List (List Nat)} {st ord b : List Nat} (h : RW w B n m (some ⟨lb, 0, none⟩) lc sb t first W ba bc ov L dss st ord b) (hm : 0 < m) {k : Nat} (hk : k < m) (h0 : st[k]? = some 2) {p : Opv} {ds : List Nat} (hp : L[k]? = some p) (hd : dss[k]? = some ds) (sy : Bool) (hs : sy = true → p.k ≠ 1) :
    RW w B n m (some ⟨lb, 0, none⟩) lc sb (t + 1) first (((W.setCell ⟨lb, k * 7 + 2, none⟩ (.int .i64 (t : Int))).setCell ⟨lb, k * 7 + 6, none⟩ (.bool sy)).setCell ⟨sb, k, none⟩ (.int .i64 3)) ba bc ov (L.set k ⟨p.k, p.fr, (t : Int), p.off, p.len, p.da, p.n, p.dc, sy⟩) dss (st.set k 3) ord b := by
  have hl := h.lbB hm
  have h1 := h.rm.setF (j := 2) (p' := ⟨p.k, p.fr, (t : Int), p.off, p.len, p.da, p.n, p.dc, p.sy⟩) (v := .int .i64 (t : Int)) hk hp hd (by decide) rfl rfl rfl rfl
  have h2 := h1.setF (j := 6) (p' := ⟨p.k, p.fr, (t : Int), p.off, p.len, p.da, p.n, p.dc, sy⟩) (v := .bool sy) hk (set_got _ hp) hd (by decide) rfl rfl rfl rfl
  rw [List.set_set] at h2
  exact ⟨((h.bel.setCell (p := ⟨lb, k * 7 + 2, none⟩) hl.1 _).setCell (p := ⟨lb, k * 7 + 6, none⟩) hl.1 _).setCell (p := ⟨sb, k, none⟩) hl.2.2.1 _, h2.setS hk 3, h.rs.told h0 hp hd ((h.rs.ask k 2 p ds h0 (by decide) hp hd).tell p.da p.dc sy hs) rfl rfl rfl rfl rfl, by rw [List.length_set]; exact h.lm, h.wb⟩
/-- a read is answered: its data anew -/
theorem RW.telld {w : World} {B n m lb lc sb t : Nat} {first : List Nat} {W : World} {ba : Option Addr} {bc : Nat} {ov : Value} {L : List Opv} {dss : List (List Nat)} {st ord b : List Nat} (h : RW w B n m (some ⟨lb, 0, none⟩) lc sb t first W ba bc ov L dss st ord b) (hm : 0 < m) {k : Nat} (hk : k < m) (h0 : st[k]? = some 2) {p : Opv} {ds : List Nat} (hp : L[k]? = some p) (hd : dss[k]? = some ds) (sy : Bool) (hs : sy = true → p.k ≠ 1) {W2 : World} {da : Option Addr} {dc : Nat} (hb : Below ((W.setCell ⟨lb, k * 7 + 2, none⟩ (.int .i64 (t : Int))).setCell ⟨lb, k * 7 + 6, none⟩ (.bool sy)).heap.size ((W.setCell ⟨lb, k * 7 + 2, none⟩ (.int .i64 (t : Int))).setCell ⟨lb, k * 7 + 6, none⟩ (.bool sy)) W2) (hr : BRow W2 da dc ds) (ha : ∀ a, da = some a → W.heap.size ≤ a.block ∧ a.block < W2.heap.size) :
    RW w B n m (some ⟨lb, 0, none⟩) lc sb (t + 1) first ((W2.setCell ⟨lb, k * 7 + 5, none⟩ (.slice da p.n dc)).setCell ⟨sb, k, none⟩ (.int .i64 3)) ba bc ov (L.set k ⟨p.k, p.fr, (t : Int), p.off, p.len, da, p.n, dc, sy⟩) dss (st.set k 3) ord b := by
  have hl := h.lbB hm
  have h1 := h.rm.setF (j := 2) (p' := ⟨p.k, p.fr, (t : Int), p.off, p.len, p.da, p.n, p.dc, p.sy⟩) (v := .int .i64 (t : Int)) hk hp hd (by decide) rfl rfl rfl rfl
  have h2 := h1.setF (j := 6) (p' := ⟨p.k, p.fr, (t : Int), p.off, p.len, p.da, p.n, p.dc, sy⟩) (v := .bool sy) hk (set_got _ hp) hd (by decide) rfl rfl rfl rfl
  rw [List.set_set] at h2
  have hdl := (h.rm.data k p ds hp hd).2
  have h3 := (h2.later hb).setL (j := 5) (p' := ⟨p.k, p.fr, (t : Int), p.off, p.len, da, p.n, dc, sy⟩) (v := .slice da p.n dc) (ds' := ds) hk (set_got _ hp) (by decide) rfl ⟨hr, hdl⟩ (fun a e => ⟨(ha a e).2, (h.fresh hm (ha a e).1).1, (h.fresh hm (ha a e).1).2.1, (h.fresh hm (ha a e).1).2.2.1⟩)
  rw [List.set_set, set_kept hd] at h3
  have hB := (h.bel.setCell (p := ⟨lb, k * 7 + 2, none⟩) hl.1 (.int .i64 (t : Int))).setCell (p := ⟨lb, k * 7 + 6, none⟩) hl.1 (.bool sy)
  have hB2 := hB.trans (hb.mono hB.size)
  exact ⟨(hB2.setCell (p := ⟨lb, k * 7 + 5, none⟩) hl.1 _).setCell (p := ⟨sb, k, none⟩) hl.2.2.1 _, h3.setS hk 3, h.rs.told h0 hp hd ((h.rs.ask k 2 p ds h0 (by decide) hp hd).tell da dc sy hs) rfl rfl rfl rfl rfl, by rw [List.length_set]; exact h.lm, h.wb⟩
theorem RW.drew {w : World} {B n m lc sb t : Nat} {la : Option Addr} {first : List Nat} {W : World} {ba : Option Addr} {bc : Nat} {ov : Value} {L : List Opv} {dss : List (List Nat)} {st ord b : List Nat} (h : RW w B n m la lc sb t first W ba bc ov L dss st ord b) : RW w B n m la lc sb t first W.drew ba bc ov L dss st ord b :=
  ⟨h.bel.trans (below_drew _ _), h.rm.later (below_drew _ _), h.rs, h.lm, h.wb⟩
/-- before the first moment -/
theorem RW.new {w W1 W2 : World} {n m lc bc : Nat} {la ba : Option Addr} {first : List Nat} {L : List Opv} {dss : List (List Nat)} (hb1 : Below w.heap.size w W1) (hr : BRow W1 ba bc first) (hn : first.length = n) (hcc : n ≤ bc) (ha : ∀ a, ba = some a → w.heap.size ≤ a.block ∧ a.block < W1.heap.size) (hb2 : Below W1.heap.size W1 W2) (ho : W2.ownsRow W1.heap.size 50 7 (.slice la m lc) m (ocells L)) (hL : L.length = m) (hD : dss.length = m) (hd : ∀ (k : Nat) (q : Opv) (ds : List Nat), L[k]? = some q → dss[k]? = some ds → W2.ownsRow W1.heap.size 5 1 (.slice q.da q.n q.dc) q.n (ds.map bv) ∧ BRow W2 q.da q.dc ds) (hm : m ≤ 1048576) :
    RW w w.heap.size n m la lc W2.heap.size 0 first (W2.alloc (.cells (Array.replicate m (Value.int .i64 0)) 3)) ba bc (.slice none 0 0) L dss (List.replicate m 0) [] first := by
  have hB3 : Below W2.heap.size W2 (W2.alloc (.cells (Array.replicate m (Value.int .i64 0)) 3)) := (Below.refl _ W2).alloc (Nat.le_refl _) _
  have hx1 := hb1.size
  have hx2 := hb2.size
  have hx3 : (W2.alloc (.cells (Array.replicate m (Value.int .i64 0)) 3)).heap.size = W2.heap.size + 1 := World.size_alloc _ _
  have hrep : ∀ (k s : Nat), (List.replicate m 0)[k]? = some s → s = 0 := fun k s h => by
    have := List.getElem?_eq_some_iff.1 h
    obtain ⟨h1, h2⟩ := this
    rw [List.getElem_replicate] at h2; exact h2.symm
  refine ⟨hb1.trans ((hb2.mono hx1).trans (hB3.mono (by omega))), ⟨?_, ?_, ?_, ?_, hcc, hn, fun k q ds h1 h2 => ?_, fun k q h1 a e => ?_, fun a e => ?_, fun e => by cases e⟩, ⟨by rw [hD, hL], by rw [List.length_replicate, hL], fun k s h => by rw [hrep k s h]; omega, fun k s p ds h h1 => by rw [hrep k s h] at h1; omega, fun k => ⟨fun h => (by cases h), fun ⟨s, h, h1⟩ => by rw [hrep k s h] at h1; omega⟩, List.nodup_nil, fun i k h => by simp at h, rfl, fun i k p ds h => by simp at h⟩, hL, Nat.le_refl _⟩
  · exact rows_same (owns_mono ho hx1) fun g e => hB3.block g (owns_in ho e).2
  · rw [List.map_replicate]
    refine ⟨by simp, .inr ⟨W2.heap.size, m, _, rfl, by omega, heap_new _ _, Nat.le_refl _, by unfold maxLen; omega, by simp, ?_⟩⟩
    simp [iv]
  · exact ⟨rfl, .inl ⟨rfl, rfl⟩⟩
  · exact (hr.later hb2).later hB3
  · obtain ⟨h3, h4⟩ := hd k q ds h1 h2
    refine ⟨h4.later hB3, ?_⟩
    have := h3.1
    rw [List.length_map] at this; omega
  · have hk : k < dss.length := by rw [hD, ← hL]; exact (List.getElem?_eq_some_iff.1 h1).1
    obtain ⟨h3, h4⟩ := hd k q dss[k] h1 (List.getElem?_eq_getElem hk)
    have h5 := owns_in h3 (g := a.block) (by rw [e]; rfl)
    obtain ⟨cu, h6⟩ := owns_type h3 a.block (by rw [e]; rfl)
    refine ⟨by omega, fun e2 => ?_, by omega, fun e2 => by cases e2⟩
    rcases ho.2 with ⟨h7, _⟩ | ⟨g, cap, cur, hv, _, hg, _⟩
    · rw [h7] at e2; cases e2
    · rw [hv] at e2
      cases e2
      rw [h6] at hg; cases hg
  · have h5 := ha a e
    refine ⟨by omega, fun e2 => ?_, by omega, fun e2 => by cases e2⟩
    have h6 := (owns_in ho e2).1
    omega
end Go.Proofs.Ytjkoambfecmglaa

namespace Go.Proofs.Ytjkoambfecmglaa
open Go.RowKit
set_option linter.unusedVariables false
set_option linter.unusedSimpArgs false
set_option maxRecDepth 100000
theorem numR_set (f : Nat → Nat) (m k : Nat) (hk : k < m) : ((List.range m).map fun j => if j < k then f j else 0).set k (f k) = (List.range m).map fun j => if j < k + 1 then f j else 0 := by
  apply List.ext_getElem?
  intro j
  by_cases e : k = j
  · subst e
    rw [List.getElem?_set_self (by simpa using hk), List.getElem?_map, List.getElem?_range hk]
    simp
  · rw [List.getElem?_set_ne e, List.getElem?_map, List.getElem?_map]
    by_cases h : j < m
    · rw [List.getElem?_range h]
      simp only [Option.map_some]
      by_cases h2 : j < k
      · rw [if_pos h2, if_pos (by omega)]
      · rw [if_neg h2, if_neg (by omega)]
    · rw [List.getElem?_eq_none (by rw [List.length_range]; omega)]; rfl
theorem numR_get (f : Nat → Nat) (m j : Nat) (hj : j < m) : ((List.range m).map fun j => if j < m then f j else 0)[j]? = some (f j) := by
  rw [List.getElem?_map, List.getElem?_range hj]
  simp [hj]
theorem ocells_app (A : List Opv) (p : Opv) : ocells (A ++ [p]) = ocells A ++ p.cells.toList := by
  induction A with
  | nil => simp [ocells]
  | cons q A ih => show q.cells.toList ++ ocells (A ++ [p]) = _; rw [ih]; simp [ocells]
/-- while the operations that were asked are put in a row -/
structure SW (X : World) (m nb k : Nat) (L : List Opv) (st : List Nat) (V : World) (sv : Value) : Prop where
  bel : Below X.heap.size X V
  row : V.ownsRow X.heap.size 50 7 sv (numK st k) (ocells (seenL L st k))
  num : V.ownsRow X.heap.size 3 1 (.slice (some ⟨nb, 0, none⟩) m m) m (((List.range m).map fun j => if j < k then numK st j else 0).map iv)
theorem SW.new (X : World) (m : Nat) (L : List Opv) (st : List Nat) (hm : m ≤ 1048576) : SW X m X.heap.size 0 L st (X.alloc (.cells (Array.replicate m (Value.int .i64 0)) 3)) (.slice none 0 0) := by
  refine ⟨(Below.refl _ X).alloc (Nat.le_refl _) _, ⟨rfl, .inl ⟨rfl, rfl⟩⟩, by simp, .inr ⟨X.heap.size, m, _, rfl, Nat.le_refl _, heap_new _ _, Nat.le_refl _, by unfold maxLen; omega, by simp, ?_⟩⟩
  apply List.ext_getElem?
  intro j
  by_cases h : j < m
  · simp [h, iv]
  · rw [List.getElem?_eq_none (by simp; omega), List.getElem?_eq_none (by simp; omega)]
theorem SW.ns {X : World} {m nb k : Nat} {L : List Opv} {st : List Nat} {V : World} {sv : Value} (h : SW X m nb k L st V sv) : sv.ownBlock ≠ some nb := fun e => by
  rcases h.row.2 with ⟨h0, _⟩ | ⟨g, cap, cur, hv, hb, hg, _⟩
  · rw [h0] at e; cases e
  · rw [hv] at e
    cases e
    obtain ⟨cu, h2⟩ := owns_type h.num g rfl
    rw [hg] at h2; cases h2
/-- the number is set -/
theorem SW.number {X : World} {m nb k : Nat} {L : List Opv} {st : List Nat} {V : World} {sv : Value} (h : SW X m nb k L st V sv) (hk : k < m) : Below X.heap.size X (V.setCell ⟨nb, k, none⟩ (iv (numK st k))) ∧ (V.setCell ⟨nb, k, none⟩ (iv (numK st k))).ownsRow X.heap.size 50 7 sv (numK st k) (ocells (seenL L st k)) ∧ (V.setCell ⟨nb, k, none⟩ (iv (numK st k))).ownsRow X.heap.size 3 1 (.slice (some ⟨nb, 0, none⟩) m m) m (((List.range m).map fun j => if j < k + 1 then numK st j else 0).map iv) := by
  refine ⟨h.bel.setCell (p := ⟨nb, k, none⟩) (owns_in h.num (g := nb) rfl).1 _, owns7_far h.row (grown_setCell _) (fun g e e2 => h.ns (by rw [e, e2])), ?_⟩
  have h1 := own_set h.num (iv (numK st k)) hk
  rw [← List.map_set, numR_set (numK st) m k hk] at h1; exact h1
/-- one that was not asked -/
theorem SW.skip {X : World} {m nb k : Nat} {L : List Opv} {st : List Nat} {V : World} {sv : Value} (h : SW X m nb k L st V sv) (hk : k < m) (ha : askB st k = false) : SW X m nb (k + 1) L st (V.setCell ⟨nb, k, none⟩ (iv (numK st k))) sv := by
  obtain ⟨h1, h2, h3⟩ := h.number hk
  refine ⟨h1, ?_, h3⟩
  unfold numK seenL
  rw [qF_no ha]; exact h2
/-- one that was asked -/
theorem SW.add {X : World} {m nb k s : Nat} {L : List Opv} {st : List Nat} {V Y Z : World} {sv sv' : Value} {p : Opv} (h : SW X m nb k L st V sv) (hk : k < m) (hs : st[k]? = some s) (h0 : 0 < s) (hp : L[k]? = some p) (hY : Below (V.setCell ⟨nb, k, none⟩ (iv (numK st k))).heap.size (V.setCell ⟨nb, k, none⟩ (iv (numK st k))) Y) (hg : Y.grownBy Z sv.ownBlock) (ho : Z.ownsRow X.heap.size 50 7 sv' (numK st k + 1) (ocells (seenL L st k) ++ (seenP s p).cells.toList)) : SW X m nb (k + 1) L st Z sv' := by
  have ha : askB st k = true := by rw [askB_of hs]; exact decide_eq_true h0
  obtain ⟨h1, h2, h3⟩ := h.number hk
  refine ⟨(h1.trans (hY.mono h1.size)).grown hg (Nat.le_trans h1.size hY.size) (fun g e => (owns_in h2 e).1), ?_, ?_⟩
  · unfold numK seenL
    rw [qF_yes ha, List.length_append, List.map_append]
    show Z.ownsRow _ _ _ _ (_ + 1) (ocells (_ ++ [seenF L st k]))
    rw [ocells_app, seenF_of hp hs]; exact ho
  · refine owns_same h3 fun g e => ?_
    have h4 := (owns_in h3 e).2
    refine (hg.block g (Nat.lt_of_lt_of_le h4 hY.size) (fun e2 => ?_)).trans (hY.block g h4)
    cases e
    exact h.ns e2.symm
/-- an own row of operations, with the data elsewhere -/
theorem opsd_row {W : World} {B n : Nat} {v : Value} {L : List Opv} {dss : List (List Nat)} (h : W.ownsRow B 50 7 v n (ocells L)) (hn : L.length = n) (hl : dss.length = L.length) (hd : ∀ (k : Nat) (p : Opv) (ds : List Nat), L[k]? = some p → dss[k]? = some ds → BRow W p.da p.dc ds ∧ ds.length = p.n) : ∃ oa oc, v = .slice oa n oc ∧ OpsD W oa L dss := by
  obtain ⟨oa, oc, rfl⟩ := own_form7 h
  refine ⟨oa, oc, rfl, ⟨fun hne => ?_⟩, hl, hd⟩
  have h0 : 0 < n := by
    rcases n with _ | n
    · exact absurd (List.eq_nil_of_length_eq_zero hn) hne
    · omega
  obtain ⟨g, rfl, hB, hg, hc, hf⟩ := own7_some h h0
  refine ⟨g, 0, rfl, fun i hi j u hu => ?_⟩
  have hj : j < 7 := by
    have := (Array.getElem?_eq_some_iff.1 hu).1
    simpa using this
  rw [Nat.zero_add, hc _ (by omega), ocells_at L i j L[i] (List.getElem?_eq_getElem hi) hj]; exact hu
/-- of what is seen the data -/
theorem RW.seenD {w : World} {B n m lc sb t : Nat} {la : Option Addr} {first : List Nat} {W : World} {ba : Option Addr} {bc : Nat} {ov : Value} {L : List Opv} {dss : List (List Nat)} {st ord b : List Nat} (h : RW w B n m la lc sb t first W ba bc ov L dss st ord b) {V : World} {nb : Nat} {sv : Value} (hs : SW W m nb m L st V sv) : ∃ sa sc, sv = .slice sa (seenL L st L.length).length sc ∧ OpsD V sa (seenL L st L.length) (seenE L dss st L.length) := by
  have hr := hs.row
  rw [← h.lm] at hr
  have hn : (seenL L st L.length).length = numK st L.length := by simp [seenL, numK]
  rw [hn]
  refine opsd_row hr hn (by simp [seenL, seenE]) fun k p ds h1 h2 => ?_
  obtain ⟨a, s, q, es, h3, h4, h5, h6, h7, _, h8, h9⟩ := h.rs.seen h1
  rw [h8] at h2
  cases h2
  subst h7
  obtain ⟨h10, h11⟩ := h.rm.data a q es h4 h5
  refine ⟨?_, seenP_len h11⟩
  unfold seenP Go.Proofs.Ytjkoambfecmglaa.seenD
  by_cases h12 : s < 3 ∧ q.k = 1
  · rw [if_pos h12, if_pos h12]; exact brow_nil V
  · rw [if_neg h12, if_neg h12]; exact h10.later hs.bel
/-- while the order's numbers are put in -/
structure TW (Y : World) (B : Nat) (ov : Value) (st ord : List Nat) (i : Nat) (V : World) : Prop where
  gr : Y.grownBy V ov.ownBlock
  row : V.ownsRow B 3 1 ov ord.length (((ord.take i).map (numK st) ++ ord.drop i).map iv)
theorem TW.new {Y : World} {B : Nat} {ov : Value} {st ord : List Nat} (h : Y.ownsRow B 3 1 ov ord.length (ord.map iv)) : TW Y B ov st ord 0 Y := ⟨World.grownBy.refl _ _, by simpa using h⟩
theorem TW.get {Y : World} {B g pc : Nat} {st ord : List Nat} {i : Nat} {V : World} (h : TW Y B (.slice (some ⟨g, 0, none⟩) ord.length pc) st ord i V) (hi : i < ord.length) : V.cell? ⟨g, i, none⟩ = some (iv ord[i]) ∧ V.frozen? ⟨g, i, none⟩ = false := by
  obtain ⟨g', e, _, hc, hf⟩ := own_some h.row (by omega)
  have e' : g = g' := by simpa using e
  subst e'
  refine ⟨?_, hf i⟩
  rw [hc i hi, List.getElem?_map, List.getElem?_append_right (by simp; omega)]
  have h1 : i - ((ord.take i).map (numK st)).length = 0 := by simp; omega
  rw [h1, List.getElem?_drop]
  simp [hi]
theorem TW.set {Y : World} {B g pc : Nat} {st ord : List Nat} {i : Nat} {V : World} (h : TW Y B (.slice (some ⟨g, 0, none⟩) ord.length pc) st ord i V) (hi : i < ord.length) : TW Y B (.slice (some ⟨g, 0, none⟩) ord.length pc) st ord (i + 1) (V.setCell ⟨g, i, none⟩ (iv (numK st ord[i]))) := by
  refine ⟨h.gr.trans (grown_setCell _), ?_⟩
  have h1 := own_set h.row (iv (numK st ord[i])) hi
  rw [← List.map_set] at h1
  have h2 : ((ord.take i).map (numK st) ++ ord.drop i).set i (numK st ord[i]) = (ord.take (i + 1)).map (numK st) ++ ord.drop (i + 1) := by
    have hl : ((ord.take i).map (numK st)).length = i := by simp; omega
    rw [List.set_append_right _ _ (by omega), hl, Nat.sub_self, List.drop_eq_getElem_cons hi, List.set_cons_zero, List.take_succ_eq_append_getElem hi, List.map_append, List.append_assoc]
    rfl
  rw [h2] at h1; exact h1
theorem TW.got {Y : World} {B g pc : Nat} {st ord : List Nat} {i x : Nat} {V : World} (h : TW Y B (.slice (some ⟨g, 0, none⟩) ord.length pc) st ord i V) (hx : ord[i]? = some x) : V.cell? ⟨g, i, none⟩ = some (iv x) ∧ V.frozen? ⟨g, i, none⟩ = false := by
  obtain ⟨hi, rfl⟩ := List.getElem?_eq_some_iff.1 hx
  exact h.get hi
theorem TW.put {Y : World} {B g pc : Nat} {st ord : List Nat} {i x : Nat} {V : World} (h : TW Y B (.slice (some ⟨g, 0, none⟩) ord.length pc) st ord i V) (hx : ord[i]? = some x) : TW Y B (.slice (some ⟨g, 0, none⟩) ord.length pc) st ord (i + 1) (V.setCell ⟨g, i, none⟩ (iv (numK st x))) := by
  obtain ⟨hi, rfl⟩ := List.getElem?_eq_some_iff.1 hx
  exact h.set hi
theorem OpsD.far {W V : World} {oa : Option Addr} {l : List Opv} {dss : List (List Nat)} {row : Option Nat} (h : OpsD W oa l dss) (hg : W.grownBy V row) (h1 : ∀ a, oa = some a → row ≠ some a.block) (h2 : ∀ (k : Nat) (p : Opv) (a : Addr), l[k]? = some p → p.da = some a → row ≠ some a.block) : OpsD V oa l dss :=
  ⟨⟨fun hl => by
    obtain ⟨b, off, e, hc⟩ := h.ops.at_ hl
    exact ⟨b, off, e, fun i hi j v hv => hg.cell (hc i hi j v hv) (fun e2 => h1 _ e e2.symm)⟩⟩, h.len, fun k p ds h3 h4 => ⟨brow_far (h.row k p ds h3 h4).1 hg (fun a e => h2 k p a h3 e), (h.row k p ds h3 h4).2⟩⟩
/-- behind the three loops -/
theorem RW.ends {w : World} {B n m lc sb t : Nat} {la : Option Addr} {first : List Nat} {W : World} {ba : Option Addr} {bc : Nat} {ov : Value} {L : List Opv} {dss : List (List Nat)} {st ord b : List Nat} (h : RW w B n m la lc sb t first W ba bc ov L dss st ord b) {V Y : World} {nb : Nat} {sv : Value} (hs : SW W m nb m L st Y sv) (ht : TW Y B ov st ord ord.length V) : Below w.heap.size w V ∧ BRow V ba bc b ∧ ∃ sa sc, sv = .slice sa (seenL L st L.length).length sc ∧ OpsD V sa (seenL L st L.length) (seenE L dss st L.length) ∧ ∃ pa pc, ov = .slice pa ord.length pc ∧ ZRow V pa (zs (ord.map (numK st))) := by
  have hw : Below w.heap.size w Y := h.bel.trans (hs.bel.mono h.bel.size)
  refine ⟨hw.grown ht.gr hw.size (fun g e => Nat.le_trans h.wb (owns_in h.rm.orow e).1), brow_far (h.rm.brow.later hs.bel) ht.gr (fun a e => (h.rm.bfree a e).2.2.2), ?_⟩
  obtain ⟨sa, sc, e, hD⟩ := h.seenD hs
  refine ⟨sa, sc, e, hD.far ht.gr (fun a e2 e3 => ?_) (fun k p a h1 e2 e3 => ?_), ?_⟩
  · have h4 := (owns_in hs.row (g := a.block) (by rw [e, e2]; rfl)).1
    have h5 := (owns_in h.rm.orow e3).2
    omega
  · obtain ⟨x, s, q, es, h3, h4, h5, h6, h7, _⟩ := h.rs.seen h1
    subst h7
    unfold seenP at e2
    by_cases h12 : s < 3 ∧ q.k = 1
    · rw [if_pos h12] at e2; cases e2
    · rw [if_neg h12] at e2; exact (h.rm.dfree x q h4 a e2).2.2.2 e3
  · have h1 := ht.row
    rw [List.take_length, List.drop_length, List.append_nil] at h1
    have h2 : (ord.map (numK st)).map iv = (zs (ord.map (numK st))).map (Value.int .i64) := by simp [zs, iv]
    rw [h2] at h1
    obtain ⟨pa, pc, e1, h3⟩ := zrow_own h1 (by simp [zs])
    exact ⟨pa, pc, e1, h3⟩
end Go.Proofs.Ytjkoambfecmglaa

namespace Go.Proofs.Ytjkoambfecmglaa
open Go.RowKit
set_option linter.unusedVariables false
set_option linter.unusedSimpArgs false
set_option maxRecDepth 100000
/-- a row of Booleans -/
structure MRow (W : World) (ao : Option Addr) (l : List Bool) : Prop where
  at_ : l ≠ [] → ∃ b off, ao = some ⟨b, off, none⟩ ∧ ∀ k (hk : k < l.length), W.cell? ⟨b, off + k, none⟩ = some (.bool l[k])
theorem MRow.later {W V : World} {ao : Option Addr} {l : List Bool} (h : MRow W ao l) (hb : Below W.heap.size W V) : MRow V ao l :=
  ⟨fun hl => by obtain ⟨b, off, e, hc⟩ := h.at_ hl; exact ⟨b, off, e, fun k hk => cell_later hb (hc k hk)⟩⟩
/-- of an order that is followed Survives takes what is there behind it -/
theorem SvOut.en0 {l : List Opv} {dss : List (List Nat)} {ord : List Int} {first after : List Nat} {n s : Nat} {ok : Bool} {en : Nat} (h : SvOut l dss ord first after n s ok en) (hw : wrg n l = 0) (ha : after.length = n) (hf : Follows l dss ord first) : en = 0 ∧ ((∀ j, j < secs n → Okay l dss ord first after j ord.length) → ok = true) := by
  rcases h with ⟨a1, _⟩ | ⟨_, a2, _⟩ | ⟨a1, a2, a3, a4, a5, a6, a7, a8⟩ | ⟨a1, a2, a3, a4, a5, a6, a7⟩
  · exact absurd hw a1
  · rcases a2 with h | h
    · exact absurd ha h
    · exact absurd hf h
  · exact ⟨a4, fun h => absurd (h s a6) a7⟩
  · exact ⟨a4, fun _ => a5⟩
theorem SvOut.yes {l : List Opv} {dss : List (List Nat)} {ord : List Int} {first after : List Nat} {n s : Nat} (h : SvOut l dss ord first after n s true 0) : after.length = n ∧ ∀ j, j < secs n → Okay l dss ord first after j ord.length := by
  rcases h with ⟨_, _, a3, _⟩ | ⟨_, _, _, a4, _⟩ | ⟨_, _, _, _, a5, _⟩ | ⟨a1, a2, a3, a4, a5, a6, a7⟩
  · cases a3
  · cases a4
  · cases a5
  · exact ⟨a2, a7⟩
theorem okay_end {l : List Opv} {dss : List (List Nat)} {ord : List Int} {first bs : List Nat} (h : FolR l dss ord first ord.length bs) (s : Nat) : Okay l dss ord first bs s ord.length := ⟨ord.length, flr_le _ _ _ _, Nat.le_refl _, bs, h, rfl⟩
end Go.Proofs.Ytjkoambfecmglaa

namespace Go.Proofs.Ytjkoambfecmglaa
open Go.RowKit
set_option linter.unusedVariables false
set_option linter.unusedSimpArgs false
set_option maxRecDepth 100000
theorem u64_small {m : Nat} (h : m ≤ 1048576) : IntKind.u64.wrap (m : Int) = (m : Int) := by
  unfold IntKind.wrap
  simp [IntKind.bits, IntKind.signed]
  omega
theorem cell_lt2 {w : World} {b j : Nat} {v : Value} (h : w.cell? ⟨b, j, none⟩ = some v) : b < w.heap.size := by
  unfold World.cell? at h
  cases hg : w.heap[b]? with
  | none => simp [hg] at h
  | some o => exact (Array.getElem?_eq_some_iff.1 hg).1
theorem reads_of {w : World} {B n m lb lc sb t : Nat} {first : List Nat} {W : World} {ba : Option Addr} {bc : Nat} {ov : Value} {L : List Opv} {dss : List (List Nat)} {st ord b : List Nat} (h : RW w B n m (some ⟨lb, 0, none⟩) lc sb t first W ba bc ov L dss st ord b) (hm : 0 < m) {k : Nat} (hk : k < m) (h0 : st[k]? = some 1) {fr to_ : Int} {o mm pn pdc : Nat} {pda : Option Addr} {sy : Bool} {ds : List Nat} (hp : L[k]? = some ⟨1, fr, to_, (o : Int), (mm : Int), pda, pn, pdc, sy⟩) (hd : dss[k]? = some ds) {U W4 X V : World} {co da : Option Addr} {cc dc : Nat} {ov' : Value} (hw : W4 = U.setCell ⟨lb, k * 7 + 5, none⟩ (.slice da mm dc)) (hb : Below W.heap.size W U) (hr : BRow U co cc b) (hcc : n ≤ cc) (ha : ∀ a, co = some a → W.heap.size ≤ a.block ∧ a.block < U.heap.size) (hr2 : BRow U da dc ((b.drop o).take mm)) (hl2 : ((b.drop o).take mm).length = mm) (ha2 : ∀ a, da = some a → W.heap.size ≤ a.block ∧ a.block < U.heap.size) (hX : Below W4.heap.size W4 X) (hg : X.grownBy V ov.ownBlock) (ho : V.ownsRow B 3 1 ov' (ord.length + 1) (ord.map iv ++ [iv k])) (hf : Fresh X ov ov') :
    RW w B n m (some ⟨lb, 0, none⟩) lc sb (t + 1) first (V.setCell ⟨sb, k, none⟩ (.int .i64 2)) co cc ov' (L.set k ⟨1, fr, to_, (o : Int), (mm : Int), da, mm, dc, sy⟩) (dss.set k ((b.drop o).take mm)) (st.set k 2) (ord ++ [k]) b := by
  subst hw
  exact h.reads hm hk h0 hp hd rfl (mm := mm) rfl hb hr hcc ha hr2 hl2 ha2 hX hg ho hf
theorem brow_cut17 {w : World} {ao : Option Addr} {c : Nat} {l : List Nat} (h : BRow w ao c l) (k : Nat) (hk : k ≤ c) : BRow w ao c (l.take k) :=
  ⟨fun x hx => h.lt x (List.mem_of_mem_take hx), by rw [List.length_take]; exact Nat.le_trans (Nat.min_le_right _ _) h.len, fun e => by
    obtain ⟨h1, h2⟩ := h.nil e
    exact ⟨by rw [h1]; simp, h2⟩, fun hl => by
    obtain ⟨b, off, e, hc⟩ := h.at_ (fun e => hl (by rw [e]; simp))
    refine ⟨b, off, e, fun j hj => ?_⟩
    rw [List.length_take] at hj
    rw [List.getElem_take]; exact hc j (by omega)⟩
theorem opsd_cut17 {W : World} {oa : Option Addr} {l : List Opv} {dss : List (List Nat)} (h : OpsD W oa l dss) (k : Nat) : OpsD W oa (l.take k) (dss.take k) :=
  ⟨⟨fun hl => by
    obtain ⟨b, off, e, hc⟩ := h.ops.at_ (fun e => hl (by rw [e]; simp))
    refine ⟨b, off, e, fun i hi j v hv => ?_⟩
    rw [List.length_take] at hi
    rw [List.getElem_take] at hv
    exact hc i (by omega) j v hv⟩, by rw [List.length_take, List.length_take, h.len], fun j p ds h1 h2 => by
    rw [List.getElem?_take] at h1 h2
    split at h1
    · rename_i h3
      rw [if_pos h3] at h2
      exact h.row j p ds h1 h2
    · cases h1⟩
end Go.Proofs.Ytjkoambfecmglaa
