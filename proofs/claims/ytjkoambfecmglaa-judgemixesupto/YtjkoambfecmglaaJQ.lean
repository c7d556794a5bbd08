import Derived.Test.YtjkoambfecmglaaJA
import Derived.Deep.RegionHeld3
namespace Go.Proofs.Ytjkoambfecmglaa
open Go.RowKit
set_option linter.unusedVariables false
set_option linter.unusedSimpArgs false
set_option maxRecDepth 100000
set_option maxHeartbeats 8000000 in
theorem rNext_any (oa da : Option Addr) (m oc d dc : Nat) (l : List Opv) (dn : List Int) (q : Nat) (p : Opv) (w : World) (h : OpsR w oa l) (hm : l.length = m) (hs : m ≤ 1099511627776) (hz : ZRow w da dn) (hd : dn.length = d) (hds : d ≤ 1099511627776) (hq : l[q]? = some p) (hnd : ¬ (q : Int) ∈ dn) :
    Calls Try.prog 29 #[.slice oa m oc, .slice da d dc, .int .i64 (q : Int)] w fun e w' => ∃ r : Bool, e = .returned (.bool r) ∧ (r = true ↔ Nxt l dn p m) ∧ Below w.heap.size w w' := by
  have hql := (List.getElem?_eq_some_iff.1 hq).1
  have HM : Hid (l.length = m) := hm
  have HI : Hid (∀ W (i : Int), Below w.heap.size w W → Calls Try.prog 51 #[.slice da d dc, .int .i64 i] W fun e w' => e = .returned (.bool (decide (i ∈ dn))) ∧ Below W.heap.size W w') := fun W i hb => rIn_any da d dc dn i W (hz.later hb) hd hds
  have HI0 : Hid _ := HI.out w (q : Int) (Below.refl _ _)
  rw [decide_eq_false hnd] at HI0
  obtain ⟨b, off, rfl, hc⟩ := h.at_ (by rintro rfl; simp at hql)
  have HC : Hid (∀ i (hi : i < l.length) j v, (l[i].cells)[j]? = some v → w.cell? ⟨b, off + i * 7 + j, none⟩ = some v) := hc
  have HP : Hid (l[q] = p) := (List.getElem?_eq_some_iff.1 hq).2
  have q1 : decide ((q : Int) < 0) = false := by simp
  have q2 : decide ((m : Int) ≤ (q : Int)) = false := by simp; omega
  have q3 : ¬ (m : Int) ≤ (q : Int) := by omega
  have q6 : decide (m ≤ q) = false := by simp; omega
  have q4 : (0 : Int) ≤ (q : Int) := by omega
  have q5 : (q : Int) < (m : Int) := by omega
  clear h hm hz hd hc hnd hq
  go_enter Try.func29, Try.ntmps29
  go_wp2_with fail
  refine Calls.mono HI0.out ?_
  rintro e W0 ⟨rfl, hb0⟩
  have HB0 : Hid (Below w.heap.size w W0) := hb0
  clear hb0 HI0
  go_wp2
  go_loopw [8] (fun iv wr => ∃ i : Nat, i ≤ m ∧ iv = .int .i64 (i : Int) ∧ Hid (Below w.heap.size w wr ∧ Nxt l dn p i)) (fun iv _ => m - (intOf iv).toNat)
  case atStart => exact ⟨0, Nat.zero_le _, rfl, HB0.out, fun j o hj => by omega⟩
  case round =>
    obtain ⟨i, hi, rfl, HB⟩ := hrel
    by_cases hlt : i < m
    · have hil : i < l.length := by rw [HM.out]; exact hlt
      obtain ⟨o, ho⟩ : ∃ o, l[i] = o := ⟨_, rfl⟩
      have HS : Hid (∀ V, Below w.heap.size w V → V.cell? ⟨b, off + i * 7, none⟩ = some (.int .i64 o.k) ∧ V.cell? ⟨b, off + i * 7 + 1, none⟩ = some (.int .i64 o.fr) ∧ V.cell? ⟨b, off + i * 7 + 2, none⟩ = some (.int .i64 o.to_) ∧ V.cell? ⟨b, off + i * 7 + 3, none⟩ = some (.int .i64 o.off) ∧ V.cell? ⟨b, off + i * 7 + 4, none⟩ = some (.int .i64 o.len) ∧ V.cell? ⟨b, off + i * 7 + 5, none⟩ = some (.slice o.da o.n o.dc) ∧ V.cell? ⟨b, off + i * 7 + 6, none⟩ = some (.bool o.sy) ∧ V.cell? ⟨b, off + q * 7, none⟩ = some (.int .i64 p.k) ∧ V.cell? ⟨b, off + q * 7 + 1, none⟩ = some (.int .i64 p.fr) ∧ V.cell? ⟨b, off + q * 7 + 2, none⟩ = some (.int .i64 p.to_) ∧ V.cell? ⟨b, off + q * 7 + 3, none⟩ = some (.int .i64 p.off) ∧ V.cell? ⟨b, off + q * 7 + 4, none⟩ = some (.int .i64 p.len) ∧ V.cell? ⟨b, off + q * 7 + 5, none⟩ = some (.slice p.da p.n p.dc) ∧ V.cell? ⟨b, off + q * 7 + 6, none⟩ = some (.bool p.sy)) := fun V hb => by
        have h1 := HC.out i hil
        have h2 := HC.out q hql
        rw [ho] at h1
        rw [HP.out] at h2
        exact ⟨cell_later hb (h1 0 _ rfl), cell_later hb (h1 1 _ rfl), cell_later hb (h1 2 _ rfl), cell_later hb (h1 3 _ rfl), cell_later hb (h1 4 _ rfl), cell_later hb (h1 5 _ rfl), cell_later hb (h1 6 _ rfl), cell_later hb (h2 0 _ rfl), cell_later hb (h2 1 _ rfl), cell_later hb (h2 2 _ rfl), cell_later hb (h2 3 _ rfl), cell_later hb (h2 4 _ rfl), cell_later hb (h2 5 _ rfl), cell_later hb (h2 6 _ rfl)⟩
      have HO : Hid (l[i]? = some o) := by show _ = _; rw [List.getElem?_eq_getElem hil, ho]
      have n9 : decide ((i : Int) < (m : Int)) = true := by simp; omega
      have ii0 : (0 : Int) ≤ (i : Int) := by omega
      have ii9 : (i : Int) < (m : Int) := by omega
      have HBd : Hid (Below w.heap.size w wr.drew) := HB.out.1.trans ((⟨rfl, rfl, rfl, Nat.le_refl _, fun _ _ => rfl⟩ : Below wr.heap.size wr wr.drew).mono HB.out.1.size)
      have HBf : Hid _ := rBefore_any o p wr.drew
      obtain ⟨c, hcd⟩ : ∃ c, decide ((i : Int) ∈ dn) = c := ⟨_, rfl⟩
      obtain ⟨e', he'⟩ : ∃ e, o.bef p = e := ⟨_, rfl⟩
      rw [he'] at HBf
      have HCd : Hid (decide ((i : Int) ∈ dn) = c ∧ o.bef p = e') := ⟨hcd, he'⟩
      clear ho hcd he'
      go_wp2
      go_region_held3 (fun w' => w'.cell? ⟨b, off + i * 7, none⟩ = some (.int .i64 o.k) ∧ w'.cell? ⟨b, off + i * 7 + 1, none⟩ = some (.int .i64 o.fr) ∧ w'.cell? ⟨b, off + i * 7 + 2, none⟩ = some (.int .i64 o.to_) ∧ w'.cell? ⟨b, off + i * 7 + 3, none⟩ = some (.int .i64 o.off) ∧ w'.cell? ⟨b, off + i * 7 + 4, none⟩ = some (.int .i64 o.len) ∧ w'.cell? ⟨b, off + i * 7 + 5, none⟩ = some (.slice o.da o.n o.dc) ∧ w'.cell? ⟨b, off + i * 7 + 6, none⟩ = some (.bool o.sy) ∧ w'.cell? ⟨b, off + q * 7, none⟩ = some (.int .i64 p.k) ∧ w'.cell? ⟨b, off + q * 7 + 1, none⟩ = some (.int .i64 p.fr) ∧ w'.cell? ⟨b, off + q * 7 + 2, none⟩ = some (.int .i64 p.to_) ∧ w'.cell? ⟨b, off + q * 7 + 3, none⟩ = some (.int .i64 p.off) ∧ w'.cell? ⟨b, off + q * 7 + 4, none⟩ = some (.int .i64 p.len) ∧ w'.cell? ⟨b, off + q * 7 + 5, none⟩ = some (.slice p.da p.n p.dc) ∧ w'.cell? ⟨b, off + q * 7 + 6, none⟩ = some (.bool p.sy)) (first | exact HS.out _ HB2.out | exact HS.out _ HBd.out | go_keep) (first | (go_at_call 52; refine Calls.mono HBf.out ?_; rintro e W2 ⟨rfl, hb2⟩; have HB2 : Hid (Below w.heap.size w W2) := HBd.out.trans (hb2.mono HBd.out.size); clear hb2))
      go_wp2_with fail
      have HIn : Hid _ := HI.out W2 (i : Int) HB2.out
      rw [HCd.out.1] at HIn
      refine Calls.mono HIn.out ?_
      rintro e W3 ⟨rfl, hb3⟩
      have HB3 : Hid (Below w.heap.size w W3) := HB2.out.trans (hb3.mono HB2.out.size)
      clear hb3 HIn
      clear HS HBf
      cases e' with
      | false =>
        have HA : Hid (Nxt l dn p (i + 1)) := HB.out.2.succ HO.out (fun h => by rw [HCd.out.2] at h; cases h)
        go_wp2_with fail
        go_roundw
        case rel => first | exact ⟨i + 1, by omega, by go_num, HB3.out, HA.out⟩ | (refine ⟨_, ?_⟩; exact ⟨i + 1, by omega, by go_num, HB3.out, HA.out⟩) | (refine ⟨_, _, ?_⟩; exact ⟨i + 1, by omega, by go_num, HB3.out, HA.out⟩)
        case measure => simp [intOf]; omega
      | true =>
        cases c with
        | true =>
          have HA : Hid (Nxt l dn p (i + 1)) := HB.out.2.succ HO.out (fun _ => of_decide_eq_true HCd.out.1)
          go_wp2
          go_roundw
          case rel => first | exact ⟨i + 1, by omega, by go_num, HB3.out, HA.out⟩ | (refine ⟨_, ?_⟩; exact ⟨i + 1, by omega, by go_num, HB3.out, HA.out⟩) | (refine ⟨_, _, ?_⟩; exact ⟨i + 1, by omega, by go_num, HB3.out, HA.out⟩)
          case measure => simp [intOf]; omega
        | false =>
          have HA : Hid (¬ Nxt l dn p m) := fun hw => absurd (hw i o hlt HO.out HCd.out.2) (of_decide_eq_false HCd.out.1)
          go_wp2
          go_ret
          exact ⟨false, rfl, ⟨(fun h => by cases h), fun h => absurd h HA.out⟩, HB3.out⟩
    · obtain rfl : i = m := by omega
      have n9 : decide ((i : Int) < (i : Int)) = false := by simp
      go_wp2
      go_ret
      exact ⟨true, rfl, ⟨fun _ => HB.out.2, fun _ => rfl⟩, HB.out.1⟩
end Go.Proofs.Ytjkoambfecmglaa

namespace Go.Proofs.Ytjkoambfecmglaa
open Go.RowKit
set_option linter.unusedVariables false
set_option linter.unusedSimpArgs false
set_option maxRecDepth 100000
/-- the document's copy of bytes, in one form -/
theorem copy_any (bo : Option Addr) (cap n : Nat) (bs : List Nat) (w : World) (h : BRow w bo cap bs) (hn : bs.length = n) :
    Calls Try.prog 9 #[.slice bo n cap] w fun e w' => ∃ co cc, e = .returned (.slice co n cc) ∧ BRow w' co cc bs ∧ w'.ownsRow w.heap.size 5 1 (.slice co n cc) n (bs.map bv) ∧ Below w.heap.size w w' := by
  subst hn
  cases bo with
  | none =>
    obtain ⟨h1, h2⟩ := h.nil rfl
    subst h1; subst h2
    refine (copy_none w).mono ?_
    rintro e w' ⟨rfl, rfl⟩
    exact ⟨none, 0, rfl, h, World.ownsRow_nil _ _ _ _, Below.refl _ _⟩
  | some ad =>
    refine (copy_some ad cap bs w h).mono ?_
    rintro e w' ⟨v, rfl, ho, hb⟩
    obtain ⟨ao, c2, rfl⟩ := owns_form ho
    obtain ⟨a3, c3, e3, h3⟩ := BRow.own ho h.lt h.len
    cases e3
    exact ⟨ao, c2, rfl, h3, ho, hb⟩
theorem take_step {bs ds : List Nat} {off i : Nat} {x : Nat} (h : (bs.drop off).take i = ds.take i) (hb : bs[off + i]? = some x) (hd : ds[i]? = some x) : (bs.drop off).take (i + 1) = ds.take (i + 1) := by
  rw [List.take_add_one, List.take_add_one, h, hd, List.getElem?_drop, hb]
theorem take_no {bs ds : List Nat} {off i m x y : Nat} (hb : bs[off + i]? = some x) (hd : ds[i]? = some y) (hxy : x ≠ y) (hi : i < m) : ¬ (bs.drop off).take m = ds := by
  intro h
  have h1 : ((bs.drop off).take m)[i]? = some x := by rw [List.getElem?_take_of_lt hi, List.getElem?_drop, hb]
  rw [h, hd] at h1
  cases h1; exact hxy rfl
set_option maxHeartbeats 4000000 in
/-- the document plays a read that was answered -/
theorem rPlay_read (bo da : Option Addr) (cap dc n m off : Nat) (bs ds : List Nat) (fr t : Int) (sy : Bool) (w : World) (hb : BRow w bo cap bs) (hn : bs.length = n) (hd : BRow w da dc ds) (hm : ds.length = m) (ht : t ≠ -1) (hin : off + m ≤ n) (hs : n ≤ 4096) :
    Calls Try.prog 30 #[.slice bo n cap, .agg #[.int .i64 1, .int .i64 fr, .int .i64 t, .int .i64 (off : Int), .int .i64 (m : Int), .slice da m dc, .bool sy]] w fun e w' => ∃ co cc, e = .returned (.tuple #[.slice co n cc, .bool (decide ((bs.drop off).take m = ds))]) ∧ BRow w' co cc bs ∧ w'.ownsRow w.heap.size 5 1 (.slice co n cc) n (bs.map bv) ∧ Below w.heap.size w w' := by
  have f1 : (t != -1) = true := by rw [bne_iff_ne]; exact ht
  obtain ⟨H, hH⟩ : ∃ H, w.heap.size = H := ⟨_, rfl⟩
  obtain ⟨W0, hW0⟩ : ∃ W0, W0 = w.alloc (.cells #[.int .i64 1, .int .i64 fr, .int .i64 t, .int .i64 (off : Int), .int .i64 (m : Int), .slice da m dc, .bool sy] 50) := ⟨_, rfl⟩
  have b0 : Below H w W0 := by rw [hW0, ← hH]; exact (Below.refl _ w).alloc (Nat.le_refl _) _
  have hx0 : W0.heap[H]? = some (.cells #[.int .i64 1, .int .i64 fr, .int .i64 t, .int .i64 (off : Int), .int .i64 (m : Int), .slice da m dc, .bool sy] 50 (0, 0)) := by rw [hW0, ← hH]; exact heap_new _ _
  have hz0 : W0.heap.size = H + 1 := by rw [hW0, World.size_alloc, hH]
  have HC : Hid _ := copy_any bo cap n bs W0 (hb.later (by rw [hH]; exact b0)) hn
  have HD : Hid (BRow w da dc ds ∧ ds.length = m ∧ bs.length = n ∧ w.heap.size = H) := ⟨hd, hm, hn, hH⟩
  have HB0 : Hid (Below H w W0 ∧ W0.heap[H]? = some (.cells #[.int .i64 1, .int .i64 fr, .int .i64 t, .int .i64 (off : Int), .int .i64 (m : Int), .slice da m dc, .bool sy] 50 (0, 0)) ∧ W0.heap.size = H + 1) := ⟨b0, hx0, hz0⟩
  rw [hH]
  rw [hW0] at HC
  clear hb hn hd hm ht b0 hx0 hz0
  go_enter Try.func30, Try.ntmps30
  go_wp2_with fail
  refine Calls.mono HC.out ?_
  rintro e W1 ⟨co, cc, rfl, hr, ho, hb1⟩
  rw [← hW0] at ho hb1
  have HE : Hid (BRow W1 co cc bs ∧ W1.ownsRow W0.heap.size 5 1 (.slice co n cc) n (bs.map bv) ∧ Below W0.heap.size W0 W1) := ⟨hr, ho, hb1⟩
  have HX : Hid (W1.heap[H]? = some (.cells #[.int .i64 1, .int .i64 fr, .int .i64 t, .int .i64 (off : Int), .int .i64 (m : Int), .slice da m dc, .bool sy] 50 (0, 0))) := (hb1.block H (by rw [HB0.out.2.2]; omega)).trans HB0.out.2.1
  have HW : Hid (Below H w W1) := HB0.out.1.trans (hb1.mono (by rw [HB0.out.2.2]; omega))
  have fin : ∀ {b : Bool}, decide ((bs.drop off).take m = ds) = b → ∀ W', (∃ k, W' = W1.drewN k) → ∃ co' cc', Ending.returned (.tuple #[.slice co n cc, .bool b]) = Ending.returned (.tuple #[.slice co' n cc', .bool (decide ((bs.drop off).take m = ds))]) ∧ BRow W' co' cc' bs ∧ W'.ownsRow H 5 1 (.slice co' n cc') n (bs.map bv) ∧ Below H w W' := fun h W' hk => by
    obtain ⟨k, rfl⟩ := hk
    subst h
    refine ⟨co, cc, rfl, hr.drewN k, owns_same (owns_mono ho (by rw [HB0.out.2.2]; omega)) (fun g _ => rfl), ?_⟩
    exact HW.out.trans (⟨rfl, rfl, rfl, Nat.le_refl _, fun _ _ => rfl⟩)
  clear hr ho hb1 HC HB0 hW0
  go_wp2
  go_loopw [7] (fun iv wr => ∃ i q : Nat, i ≤ m ∧ iv = .int .i64 (i : Int) ∧ wr = W1.drewN q ∧ Hid ((bs.drop off).take i = ds.take i)) (fun iv _ => m - (intOf iv).toNat)
  case atStart => exact ⟨0, 0, Nat.zero_le _, rfl, rfl, by show _ = _; simp⟩
  case round =>
    obtain ⟨i, q, hi, rfl, rfl, HT⟩ := hrel
    have c4 : W1.cell? ⟨H, 4, none⟩ = some (.int .i64 (m : Int)) := blk_at HX.out 4
    by_cases hlt : i < m
    · have c0 : W1.cell? ⟨H, 0, none⟩ = some (.int .i64 1) := blk_at HX.out 0
      have c2 : W1.cell? ⟨H, 2, none⟩ = some (.int .i64 t) := blk_at HX.out 2
      have c3 : W1.cell? ⟨H, 3, none⟩ = some (.int .i64 (off : Int)) := blk_at HX.out 3
      have c5 : W1.cell? ⟨H, 5, none⟩ = some (.slice da m dc) := blk_at HX.out 5
      have n9 : decide ((i : Int) < (m : Int)) = true := by simp; omega
      have ii0 : (0 : Int) ≤ (i : Int) := by omega
      have ii9 : (i : Int) < (m : Int) := by omega
      have oo0 : (0 : Int) ≤ (off : Int) + (i : Int) := by omega
      have oo9 : (off : Int) + (i : Int) < (n : Int) := by omega
      have oo8 : ((off : Int) + (i : Int)).toNat = off + i := by omega
      have oo7 : IntKind.i64.wrap ((off : Int) + (i : Int)) = (off : Int) + (i : Int) := by rw [IntKind.wrap_i64]; omega
      have hbl : off + i < bs.length := by rw [HD.out.2.2.1]; omega
      have hdl : i < ds.length := by rw [HD.out.2.1]; omega
      obtain ⟨g, o0, e0, hc⟩ := HE.out.1.at_ (by rintro rfl; simp at hbl)
      obtain ⟨gd, d0, e1, hdc⟩ := (HD.out.1.later (by rw [HD.out.2.2.2]; exact HW.out)).at_ (by rintro rfl; simp at hdl)
      subst e0; subst e1
      obtain ⟨x, hx⟩ : ∃ x, bs[off + i] = x := ⟨_, rfl⟩
      obtain ⟨y, hy⟩ : ∃ y, ds[i] = y := ⟨_, rfl⟩
      have cb : W1.cell? ⟨g, o0 + (off + i), none⟩ = some (.int .u8 (x : Int)) := by rw [← hx]; exact hc _ hbl
      have cd : W1.cell? ⟨gd, d0 + i, none⟩ = some (.int .u8 (y : Int)) := by rw [← hy]; exact hdc _ hdl
      have HXY : Hid (bs[off + i]? = some x ∧ ds[i]? = some y) := ⟨by rw [List.getElem?_eq_getElem hbl, hx], by rw [List.getElem?_eq_getElem hdl, hy]⟩
      clear hc hdc hx hy
      by_cases hxy : x = y
      · subst hxy
        have HS : Hid ((bs.drop off).take (i + 1) = ds.take (i + 1)) := take_step HT.out HXY.out.1 HXY.out.2
        go_wp2
        go_quiet (fail)
        go_wp2
        go_roundw
        case rel => exact ⟨i + 1, _, by omega, by go_num, rfl, HS⟩
        case measure => simp [intOf]; omega
      · have HS : Hid (¬ (bs.drop off).take m = ds) := take_no HXY.out.1 HXY.out.2 hxy hlt
        have hne : ((x : Int) != (y : Int)) = true := by rw [bne_iff_ne]; omega
        clear hxy
        go_wp2
        go_quiet (fail)
        go_wp2
        go_ret2
        exact fin (decide_eq_false HS) _ ⟨_, World.drewN_drewN _ _ _⟩
    · have n9 : decide ((i : Int) < (m : Int)) = false := by simp; omega
      obtain rfl : i = m := by omega
      go_wp2
      go_ret2
      have HS : (bs.drop off).take i = ds := by rw [HT.out]; exact List.take_of_length_le (by rw [HD.out.2.1]; omega)
      exact fin (decide_eq_true HS) _ ⟨_, rfl⟩
end Go.Proofs.Ytjkoambfecmglaa

namespace Go.Proofs.Ytjkoambfecmglaa
open Go.RowKit
set_option linter.unusedVariables false
set_option linter.unusedSimpArgs false
set_option maxRecDepth 100000
/-- bs with the first i of ds laid at off -/
def laidTo (bs ds : List Nat) (off i : Nat) : List Nat := bs.take off ++ (ds.take i ++ bs.drop (off + i))
theorem laidTo_zero (bs ds : List Nat) (off : Nat) : laidTo bs ds off 0 = bs := by simp [laidTo]
theorem laidTo_set {bs ds : List Nat} {off i y : Nat} (hb : off + i < bs.length) (hd : ds[i]? = some y) : (laidTo bs ds off i).set (off + i) y = laidTo bs ds off (i + 1) := by
  have hi := (List.getElem?_eq_some_iff.1 hd).1
  have l1 : (bs.take off).length = off := by rw [List.length_take]; omega
  have l2 : (ds.take i).length = i := by rw [List.length_take]; omega
  unfold laidTo
  rw [List.set_append_right _ _ (by omega), l1, show off + i - off = i by omega, List.set_append_right _ _ (by omega), l2, Nat.sub_self, List.drop_eq_getElem_cons hb, List.set_cons_zero, List.take_add_one, hd]
  simp [Nat.add_assoc]
theorem laidTo_len {bs ds : List Nat} {off i : Nat} (hb : off + i ≤ bs.length) (hi : i ≤ ds.length) : (laidTo bs ds off i).length = bs.length := by
  simp [laidTo]; omega
theorem laidTo_lt {bs ds : List Nat} {off i : Nat} (hb : ∀ x ∈ bs, x < 256) (hd : ∀ x ∈ ds, x < 256) : ∀ x ∈ laidTo bs ds off i, x < 256 := fun x hx => by
  unfold laidTo at hx
  rcases List.mem_append.1 hx with h | h
  · exact hb x (List.mem_of_mem_take h)
  · rcases List.mem_append.1 h with h | h
    · exact hd x (List.mem_of_mem_take h)
    · exact hb x (List.mem_of_mem_drop h)
theorem own_set {W : World} {B e n g cap j : Nat} {xs : List Value} (h : W.ownsRow B e 1 (.slice (some ⟨g, 0, none⟩) n cap) n xs) (x : Value) (hj : j < n) : (W.setCell ⟨g, j, none⟩ x).ownsRow B e 1 (.slice (some ⟨g, 0, none⟩) n cap) n (xs.set j x) := by
  refine ⟨by rw [List.length_set]; exact h.1, Or.inr ?_⟩
  rcases h.2 with ⟨h0, _⟩ | ⟨g', cap', cur, hv, hb, hc, h1, h2, h3, h4⟩
  · simp at h0
  · simp at hv
    obtain ⟨rfl, rfl⟩ := hv
    refine ⟨g, cap, cur.setIfInBounds j x, rfl, hb, heap_setCell_same W g j cur e x hc, h1, h2, by simpa using h3, ?_⟩
    rw [Array.toList_setIfInBounds, List.take_set, h4]
/-- an owned row that holds something: its block, its cells, none frozen -/
theorem own_some {W : World} {B e n cc : Nat} {co : Option Addr} {xs : List Value} (h : W.ownsRow B e 1 (.slice co n cc) n xs) (hn : 0 < n) : ∃ g, co = some ⟨g, 0, none⟩ ∧ B ≤ g ∧ (∀ j, j < n → W.cell? ⟨g, j, none⟩ = xs[j]?) ∧ ∀ j, W.frozen? ⟨g, j, none⟩ = false := by
  rcases h.2 with ⟨h0, h1⟩ | ⟨g', cap', cur, hv, hb, hc, h1, h2, h3, h4⟩
  · omega
  · simp at hv
    obtain ⟨rfl, rfl⟩ := hv
    refine ⟨g', rfl, hb, fun j hj => ?_, fun j => blk_free hc j⟩
    rw [blk_at hc j, ← h4, List.getElem?_take_of_lt (by omega), Array.getElem?_toList]
set_option maxHeartbeats 4000000 in
/-- the document plays what makes zeros -/
theorem rPlay_zero (bo da : Option Addr) (cap dc n m off k : Nat) (bs : List Nat) (fr t : Int) (sy : Bool) (w : World) (hb : BRow w bo cap bs) (hn : bs.length = n) (hin : off + m ≤ n) (hs : n ≤ 4096) :
    Calls Try.prog 30 #[.slice bo n cap, .agg #[.int .i64 3, .int .i64 fr, .int .i64 t, .int .i64 (off : Int), .int .i64 (m : Int), .slice da k dc, .bool sy]] w fun e w' => ∃ co cc, e = .returned (.tuple #[.slice co n cc, .bool true]) ∧ BRow w' co cc (laidTo bs (List.replicate m 0) off m) ∧ w'.ownsRow w.heap.size 5 1 (.slice co n cc) n ((laidTo bs (List.replicate m 0) off m).map bv) ∧ Below w.heap.size w w' := by
  obtain ⟨ds, hds⟩ : ∃ ds, List.replicate m 0 = ds := ⟨_, rfl⟩
  have HDs : Hid ((∀ i, i < m → ds[i]? = some 0) ∧ ds.length = m ∧ ∀ x ∈ ds, x < 256) := by subst hds; exact ⟨fun i hi => by simp [hi], by simp, fun x hx => by rw [(List.mem_replicate.1 hx).2]; omega⟩
  rw [hds]; clear hds
  obtain ⟨H, hH⟩ : ∃ H, w.heap.size = H := ⟨_, rfl⟩
  obtain ⟨W0, hW0⟩ : ∃ W0, W0 = w.alloc (.cells #[.int .i64 3, .int .i64 fr, .int .i64 t, .int .i64 (off : Int), .int .i64 (m : Int), .slice da k dc, .bool sy] 50) := ⟨_, rfl⟩
  have b0 : Below H w W0 := by rw [hW0, ← hH]; exact (Below.refl _ w).alloc (Nat.le_refl _) _
  have hx0 : W0.heap[H]? = some (.cells #[.int .i64 3, .int .i64 fr, .int .i64 t, .int .i64 (off : Int), .int .i64 (m : Int), .slice da k dc, .bool sy] 50 (0, 0)) := by rw [hW0, ← hH]; exact heap_new _ _
  have hz0 : W0.heap.size = H + 1 := by rw [hW0, World.size_alloc, hH]
  have HC : Hid _ := copy_any bo cap n bs W0 (hb.later (by rw [hH]; exact b0)) hn
  have HD : Hid ((∀ x ∈ bs, x < 256) ∧ bs.length ≤ 140737488351232 ∧ bs.length = n ∧ w.heap.size = H) := ⟨hb.lt, hb.len, hn, hH⟩
  have HB0 : Hid (Below H w W0 ∧ W0.heap[H]? = some (.cells #[.int .i64 3, .int .i64 fr, .int .i64 t, .int .i64 (off : Int), .int .i64 (m : Int), .slice da k dc, .bool sy] 50 (0, 0)) ∧ W0.heap.size = H + 1) := ⟨b0, hx0, hz0⟩
  rw [hH]
  rw [hW0] at HC
  clear hb hn b0 hx0 hz0
  go_enter Try.func30, Try.ntmps30
  go_wp2_with fail
  refine Calls.mono HC.out ?_
  rintro e W1 ⟨co, cc, rfl, hr, ho, hb1⟩
  rw [← hW0] at ho hb1
  have HX : Hid (W1.heap[H]? = some (.cells #[.int .i64 3, .int .i64 fr, .int .i64 t, .int .i64 (off : Int), .int .i64 (m : Int), .slice da k dc, .bool sy] 50 (0, 0)) ∧ Below H w W1 ∧ W1.ownsRow (H + 1) 5 1 (.slice co n cc) n (bs.map bv)) := ⟨(hb1.block H (by rw [HB0.out.2.2]; omega)).trans HB0.out.2.1, HB0.out.1.trans (hb1.mono (by rw [HB0.out.2.2]; omega)), by rw [← HB0.out.2.2]; exact ho⟩
  clear hr ho hb1 HC HB0 hW0
  go_wp2
  go_loopw [7] (fun iv wr => ∃ i : Nat, i ≤ m ∧ iv = .int .i64 (i : Int) ∧ Hid (wr.heap[H]? = some (.cells #[.int .i64 3, .int .i64 fr, .int .i64 t, .int .i64 (off : Int), .int .i64 (m : Int), .slice da k dc, .bool sy] 50 (0, 0)) ∧ Below H w wr ∧ wr.ownsRow (H + 1) 5 1 (.slice co n cc) n ((laidTo bs ds off i).map bv))) (fun iv _ => m - (intOf iv).toNat)
  case atStart => exact ⟨0, Nat.zero_le _, rfl, by rw [laidTo_zero]; exact HX⟩
  case round =>
    obtain ⟨i, hi, rfl, HR⟩ := hrel
    have c4 : wr.cell? ⟨H, 4, none⟩ = some (.int .i64 (m : Int)) := blk_at HR.out.1 4
    by_cases hlt : i < m
    · have c0 : wr.cell? ⟨H, 0, none⟩ = some (.int .i64 3) := blk_at HR.out.1 0
      have c3 : wr.cell? ⟨H, 3, none⟩ = some (.int .i64 (off : Int)) := blk_at HR.out.1 3
      have n9 : decide ((i : Int) < (m : Int)) = true := by simp; omega
      have ii0 : (0 : Int) ≤ (i : Int) := by omega
      have ii9 : (i : Int) < (m : Int) := by omega
      have oo0 : (0 : Int) ≤ (off : Int) + (i : Int) := by omega
      have oo9 : (off : Int) + (i : Int) < (n : Int) := by omega
      have oo8 : ((off : Int) + (i : Int)).toNat = off + i := by omega
      have oo7 : IntKind.i64.wrap ((off : Int) + (i : Int)) = (off : Int) + (i : Int) := by rw [IntKind.wrap_i64]; omega
      obtain ⟨g, e0, hg, hc, hf⟩ := own_some HR.out.2.2 (by omega)
      subst e0
      have hll : off + i < ((laidTo bs ds off i).map bv).length := by rw [List.length_map, laidTo_len (by rw [HD.out.2.2.1]; omega) (by rw [HDs.out.2.1]; omega), HD.out.2.2.1]; omega
      have cg := hc (off + i) (by omega)
      rw [List.getElem?_eq_getElem hll] at cg
      have fg := hf (off + i)
      have HN : Hid ((wr.setCell ⟨g, off + i, none⟩ (.int .u8 0)).heap[H]? = some (.cells #[.int .i64 3, .int .i64 fr, .int .i64 t, .int .i64 (off : Int), .int .i64 (m : Int), .slice da k dc, .bool sy] 50 (0, 0)) ∧ Below H w (wr.setCell ⟨g, off + i, none⟩ (.int .u8 0)) ∧ (wr.setCell ⟨g, off + i, none⟩ (.int .u8 0)).ownsRow (H + 1) 5 1 (.slice (some ⟨g, 0, none⟩) n cc) n ((laidTo bs ds off (i + 1)).map bv)) := by
        refine ⟨(Below.heap_setCell _ _ _ _ (by simp; omega)).trans HR.out.1, HR.out.2.1.setCell (by simp; omega) _, ?_⟩
        have h5 := own_set HR.out.2.2 (bv 0) (show off + i < n by omega)
        rw [← List.map_set, laidTo_set (by rw [HD.out.2.2.1]; omega) (HDs.out.1 i hlt)] at h5
        exact h5
      generalize ((laidTo bs ds off i).map bv)[off + i] = old at cg
      clear hc hf hll hg
      go_wp2
      go_roundw
      case rel => exact ⟨i + 1, by omega, by go_num, HN⟩
      case measure => simp [intOf]; omega
    · have n9 : decide ((i : Int) < (m : Int)) = false := by simp; omega
      obtain rfl : i = m := by omega
      have ho := HR.out.2.2
      have hl : (laidTo bs ds off i).length = n := by rw [laidTo_len (by rw [HD.out.2.2.1]; omega) (by rw [HDs.out.2.1]; omega), HD.out.2.2.1]
      have HF : Hid (BRow wr co cc (laidTo bs ds off i) ∧ wr.ownsRow H 5 1 (.slice co n cc) n ((laidTo bs ds off i).map bv) ∧ Below H w wr) := by
        have hlt := laidTo_lt (off := off) (i := i) HD.out.1 HDs.out.2.2
        have h6 : wr.ownsRow (H + 1) 5 1 (.slice co n cc) (laidTo bs ds off i).length ((laidTo bs ds off i).map bv) := by rw [hl]; exact ho
        obtain ⟨a3, c3, e3, h3⟩ := BRow.own h6 hlt (by omega)
        cases e3
        exact ⟨h3, owns_mono ho (by omega), HR.out.2.1⟩
      clear ho
      go_wp2
      go_ret2
      exact ⟨co, cc, rfl, HF.out⟩
end Go.Proofs.Ytjkoambfecmglaa

namespace Go.Proofs.Ytjkoambfecmglaa
open Go.RowKit
set_option linter.unusedVariables false
set_option linter.unusedSimpArgs false
set_option maxRecDepth 100000
set_option maxHeartbeats 4000000 in
/-- the document plays a write -/
theorem rPlay_write (bo da : Option Addr) (cap dc n m off : Nat) (bs ds : List Nat) (fr t : Int) (sy : Bool) (w : World) (hb : BRow w bo cap bs) (hn : bs.length = n) (hd : BRow w da dc ds) (hm : ds.length = m) (hin : off + m ≤ n) (hs : n ≤ 4096) :
    Calls Try.prog 30 #[.slice bo n cap, .agg #[.int .i64 2, .int .i64 fr, .int .i64 t, .int .i64 (off : Int), .int .i64 (m : Int), .slice da m dc, .bool sy]] w fun e w' => ∃ co cc, e = .returned (.tuple #[.slice co n cc, .bool true]) ∧ BRow w' co cc (laidTo bs ds off m) ∧ w'.ownsRow w.heap.size 5 1 (.slice co n cc) n ((laidTo bs ds off m).map bv) ∧ Below w.heap.size w w' := by
  have HDs : Hid (BRow w da dc ds ∧ ds.length = m ∧ ∀ x ∈ ds, x < 256) := ⟨hd, hm, hd.lt⟩
  obtain ⟨H, hH⟩ : ∃ H, w.heap.size = H := ⟨_, rfl⟩
  obtain ⟨W0, hW0⟩ : ∃ W0, W0 = w.alloc (.cells #[.int .i64 2, .int .i64 fr, .int .i64 t, .int .i64 (off : Int), .int .i64 (m : Int), .slice da m dc, .bool sy] 50) := ⟨_, rfl⟩
  have b0 : Below H w W0 := by rw [hW0, ← hH]; exact (Below.refl _ w).alloc (Nat.le_refl _) _
  have hx0 : W0.heap[H]? = some (.cells #[.int .i64 2, .int .i64 fr, .int .i64 t, .int .i64 (off : Int), .int .i64 (m : Int), .slice da m dc, .bool sy] 50 (0, 0)) := by rw [hW0, ← hH]; exact heap_new _ _
  have hz0 : W0.heap.size = H + 1 := by rw [hW0, World.size_alloc, hH]
  have HC : Hid _ := copy_any bo cap n bs W0 (hb.later (by rw [hH]; exact b0)) hn
  have HD : Hid ((∀ x ∈ bs, x < 256) ∧ bs.length ≤ 140737488351232 ∧ bs.length = n ∧ w.heap.size = H) := ⟨hb.lt, hb.len, hn, hH⟩
  have HB0 : Hid (Below H w W0 ∧ W0.heap[H]? = some (.cells #[.int .i64 2, .int .i64 fr, .int .i64 t, .int .i64 (off : Int), .int .i64 (m : Int), .slice da m dc, .bool sy] 50 (0, 0)) ∧ W0.heap.size = H + 1) := ⟨b0, hx0, hz0⟩
  rw [hH]
  rw [hW0] at HC
  clear hb hn hd hm b0 hx0 hz0
  go_enter Try.func30, Try.ntmps30
  go_wp2_with fail
  refine Calls.mono HC.out ?_
  rintro e W1 ⟨co, cc, rfl, hr, ho, hb1⟩
  rw [← hW0] at ho hb1
  have HX : Hid (W1.heap[H]? = some (.cells #[.int .i64 2, .int .i64 fr, .int .i64 t, .int .i64 (off : Int), .int .i64 (m : Int), .slice da m dc, .bool sy] 50 (0, 0)) ∧ Below H w W1 ∧ W1.ownsRow (H + 1) 5 1 (.slice co n cc) n (bs.map bv)) := ⟨(hb1.block H (by rw [HB0.out.2.2]; omega)).trans HB0.out.2.1, HB0.out.1.trans (hb1.mono (by rw [HB0.out.2.2]; omega)), by rw [← HB0.out.2.2]; exact ho⟩
  clear hr ho hb1 HC HB0 hW0
  go_wp2
  go_loopw [7] (fun iv wr => ∃ i : Nat, i ≤ m ∧ iv = .int .i64 (i : Int) ∧ Hid (wr.heap[H]? = some (.cells #[.int .i64 2, .int .i64 fr, .int .i64 t, .int .i64 (off : Int), .int .i64 (m : Int), .slice da m dc, .bool sy] 50 (0, 0)) ∧ Below H w wr ∧ wr.ownsRow (H + 1) 5 1 (.slice co n cc) n ((laidTo bs ds off i).map bv))) (fun iv _ => m - (intOf iv).toNat)
  case atStart => exact ⟨0, Nat.zero_le _, rfl, by rw [laidTo_zero]; exact HX⟩
  case round =>
    obtain ⟨i, hi, rfl, HR⟩ := hrel
    have c4 : wr.cell? ⟨H, 4, none⟩ = some (.int .i64 (m : Int)) := blk_at HR.out.1 4
    by_cases hlt : i < m
    · have c0 : wr.cell? ⟨H, 0, none⟩ = some (.int .i64 2) := blk_at HR.out.1 0
      have c3 : wr.cell? ⟨H, 3, none⟩ = some (.int .i64 (off : Int)) := blk_at HR.out.1 3
      have n9 : decide ((i : Int) < (m : Int)) = true := by simp; omega
      have ii0 : (0 : Int) ≤ (i : Int) := by omega
      have ii9 : (i : Int) < (m : Int) := by omega
      have oo0 : (0 : Int) ≤ (off : Int) + (i : Int) := by omega
      have oo9 : (off : Int) + (i : Int) < (n : Int) := by omega
      have oo8 : ((off : Int) + (i : Int)).toNat = off + i := by omega
      have oo7 : IntKind.i64.wrap ((off : Int) + (i : Int)) = (off : Int) + (i : Int) := by rw [IntKind.wrap_i64]; omega
      obtain ⟨g, e0, hg, hc, hf⟩ := own_some HR.out.2.2 (by omega)
      subst e0
      have hll : off + i < ((laidTo bs ds off i).map bv).length := by rw [List.length_map, laidTo_len (by rw [HD.out.2.2.1]; omega) (by rw [HDs.out.2.1]; omega), HD.out.2.2.1]; omega
      have cg := hc (off + i) (by omega)
      rw [List.getElem?_eq_getElem hll] at cg
      have fg := hf (off + i)
      have hdl : i < ds.length := by rw [HDs.out.2.1]; exact hlt
      obtain ⟨y, hyy⟩ : ∃ y, ds[i] = y := ⟨_, rfl⟩
      have HY : ds[i]? = some y := by rw [List.getElem?_eq_getElem hdl, hyy]
      have HN : Hid ((wr.setCell ⟨g, off + i, none⟩ (.int .u8 (y : Int))).heap[H]? = some (.cells #[.int .i64 2, .int .i64 fr, .int .i64 t, .int .i64 (off : Int), .int .i64 (m : Int), .slice da m dc, .bool sy] 50 (0, 0)) ∧ Below H w (wr.setCell ⟨g, off + i, none⟩ (.int .u8 (y : Int))) ∧ (wr.setCell ⟨g, off + i, none⟩ (.int .u8 (y : Int))).ownsRow (H + 1) 5 1 (.slice (some ⟨g, 0, none⟩) n cc) n ((laidTo bs ds off (i + 1)).map bv)) := by
        refine ⟨(Below.heap_setCell _ _ _ _ (by simp; omega)).trans HR.out.1, HR.out.2.1.setCell (by simp; omega) _, ?_⟩
        have h5 := own_set HR.out.2.2 (bv y) (show off + i < n by omega)
        rw [← List.map_set, laidTo_set (by rw [HD.out.2.2.1]; omega) HY] at h5
        exact h5
      generalize ((laidTo bs ds off i).map bv)[off + i] = old at cg
      have c5 : wr.cell? ⟨H, 5, none⟩ = some (.slice da m dc) := blk_at HR.out.1 5
      obtain ⟨gd, d0, e1, hdc⟩ := (HDs.out.1.later (by rw [HD.out.2.2.2]; exact HR.out.2.1)).at_ (by rintro rfl; simp at hdl)
      subst e1
      have cd : wr.cell? ⟨gd, d0 + i, none⟩ = some (.int .u8 (y : Int)) := by rw [← hyy]; exact hdc i hdl
      have HS : Hid ((wr.setCell ⟨g, off + i, none⟩ (.int .u8 (y : Int))).drew.cell? ⟨H, 3, none⟩ = some (.int .i64 (off : Int)) ∧ (wr.setCell ⟨g, off + i, none⟩ (.int .u8 (y : Int))).drew.cell? ⟨H, 5, none⟩ = some (.slice (some ⟨gd, d0, none⟩) m dc) ∧ (wr.setCell ⟨g, off + i, none⟩ (.int .u8 (y : Int))).drew.cell? ⟨gd, d0 + i, none⟩ = some (.int .u8 (y : Int))) := by
        refine ⟨blk_at HN.out.1 3, blk_at HN.out.1 5, ?_⟩
        obtain ⟨g2, d2, e2, h2⟩ := (HDs.out.1.later (by rw [HD.out.2.2.2]; exact HN.out.2.1)).at_ (by rintro rfl; simp at hdl)
        simp only [Option.some.injEq, Addr.mk.injEq, and_true] at e2
        obtain ⟨rfl, rfl⟩ := e2
        have h3 := h2 i hdl
        rw [hyy] at h3
        exact h3
      have HN2 : Hid ((wr.setCell ⟨g, off + i, none⟩ (.int .u8 (y : Int))).drew.heap[H]? = some (.cells #[.int .i64 2, .int .i64 fr, .int .i64 t, .int .i64 (off : Int), .int .i64 (m : Int), .slice (some ⟨gd, d0, none⟩) m dc, .bool sy] 50 (0, 0)) ∧ Below H w (wr.setCell ⟨g, off + i, none⟩ (.int .u8 (y : Int))).drew ∧ (wr.setCell ⟨g, off + i, none⟩ (.int .u8 (y : Int))).drew.ownsRow (H + 1) 5 1 (.slice (some ⟨g, 0, none⟩) n cc) n ((laidTo bs ds off (i + 1)).map bv)) :=
        ⟨HN.out.1, HN.out.2.1.trans ⟨rfl, rfl, rfl, Nat.le_refl _, fun _ _ => rfl⟩, owns_same HN.out.2.2 (fun _ _ => rfl)⟩
      clear hc hf hll hg hdc hyy hdl
      go_wp2
      go_region_held3 (fun w' => w'.cell? ⟨H, 3, none⟩ = some (.int .i64 (off : Int)) ∧ w'.cell? ⟨H, 5, none⟩ = some (.slice (some ⟨gd, d0, none⟩) m dc) ∧ w'.cell? ⟨gd, d0 + i, none⟩ = some (.int .u8 (y : Int))) (first | exact HS.out | go_keep) (first | fail)
      go_wp2
      go_roundw
      case rel => exact ⟨i + 1, by omega, by go_num, HN2⟩
      case measure => simp [intOf]; omega
    · have n9 : decide ((i : Int) < (m : Int)) = false := by simp; omega
      obtain rfl : i = m := by omega
      have ho := HR.out.2.2
      have hl : (laidTo bs ds off i).length = n := by rw [laidTo_len (by rw [HD.out.2.2.1]; omega) (by rw [HDs.out.2.1]; omega), HD.out.2.2.1]
      have HF : Hid (BRow wr co cc (laidTo bs ds off i) ∧ wr.ownsRow H 5 1 (.slice co n cc) n ((laidTo bs ds off i).map bv) ∧ Below H w wr) := by
        have hlt := laidTo_lt (off := off) (i := i) HD.out.1 HDs.out.2.2
        have h6 : wr.ownsRow (H + 1) 5 1 (.slice co n cc) (laidTo bs ds off i).length ((laidTo bs ds off i).map bv) := by rw [hl]; exact ho
        obtain ⟨a3, c3, e3, h3⟩ := BRow.own h6 hlt (by omega)
        cases e3
        exact ⟨h3, owns_mono ho (by omega), HR.out.2.1⟩
      clear ho
      go_wp2
      go_ret2
      exact ⟨co, cc, rfl, HF.out⟩
end Go.Proofs.Ytjkoambfecmglaa

namespace Go.Proofs.Ytjkoambfecmglaa
open Go.RowKit
set_option linter.unusedVariables false
set_option linter.unusedSimpArgs false
set_option maxRecDepth 100000
set_option maxHeartbeats 4000000 in
/-- the document plays a read that was not answered -/
theorem rPlay_askN (bo da : Option Addr) (cap dc n k m off : Nat) (bs : List Nat) (fr : Int) (sy : Bool) (w : World) (hb : BRow w bo cap bs) (hn : bs.length = n) (hin : off + m ≤ n) (hs : n ≤ 4096) :
    Calls Try.prog 30 #[.slice bo n cap, .agg #[.int .i64 1, .int .i64 fr, .int .i64 (-1), .int .i64 (off : Int), .int .i64 (m : Int), .slice da k dc, .bool sy]] w fun e w' => ∃ co cc, e = .returned (.tuple #[.slice co n cc, .bool true]) ∧ BRow w' co cc bs ∧ w'.ownsRow w.heap.size 5 1 (.slice co n cc) n (bs.map bv) ∧ Below w.heap.size w w' := by
  obtain ⟨H, hH⟩ : ∃ H, w.heap.size = H := ⟨_, rfl⟩
  obtain ⟨W0, hW0⟩ : ∃ W0, W0 = w.alloc (.cells #[.int .i64 1, .int .i64 fr, .int .i64 (-1), .int .i64 (off : Int), .int .i64 (m : Int), .slice da k dc, .bool sy] 50) := ⟨_, rfl⟩
  have b0 : Below H w W0 := by rw [hW0, ← hH]; exact (Below.refl _ w).alloc (Nat.le_refl _) _
  have hx0 : W0.heap[H]? = some (.cells #[.int .i64 1, .int .i64 fr, .int .i64 (-1), .int .i64 (off : Int), .int .i64 (m : Int), .slice da k dc, .bool sy] 50 (0, 0)) := by rw [hW0, ← hH]; exact heap_new _ _
  have hz0 : W0.heap.size = H + 1 := by rw [hW0, World.size_alloc, hH]
  have HC : Hid _ := copy_any bo cap n bs W0 (hb.later (by rw [hH]; exact b0)) hn
  have HD : Hid (bs.length = n ∧ w.heap.size = H) := ⟨hn, hH⟩
  have HB0 : Hid (Below H w W0 ∧ W0.heap[H]? = some (.cells #[.int .i64 1, .int .i64 fr, .int .i64 (-1), .int .i64 (off : Int), .int .i64 (m : Int), .slice da k dc, .bool sy] 50 (0, 0)) ∧ W0.heap.size = H + 1) := ⟨b0, hx0, hz0⟩
  rw [hH]
  rw [hW0] at HC
  clear hb hn b0 hx0 hz0
  go_enter Try.func30, Try.ntmps30
  go_wp2_with fail
  refine Calls.mono HC.out ?_
  rintro e W1 ⟨co, cc, rfl, hr, ho, hb1⟩
  rw [← hW0] at ho hb1
  have HE : Hid (BRow W1 co cc bs ∧ W1.ownsRow W0.heap.size 5 1 (.slice co n cc) n (bs.map bv) ∧ Below W0.heap.size W0 W1) := ⟨hr, ho, hb1⟩
  have HX : Hid (W1.heap[H]? = some (.cells #[.int .i64 1, .int .i64 fr, .int .i64 (-1), .int .i64 (off : Int), .int .i64 (m : Int), .slice da k dc, .bool sy] 50 (0, 0))) := (hb1.block H (by rw [HB0.out.2.2]; omega)).trans HB0.out.2.1
  have HW : Hid (Below H w W1) := HB0.out.1.trans (hb1.mono (by rw [HB0.out.2.2]; omega))
  have fin : ∀ W', (∃ k, W' = W1.drewN k) → ∃ co' cc', Ending.returned (.tuple #[.slice co n cc, .bool true]) = Ending.returned (.tuple #[.slice co' n cc', .bool true]) ∧ BRow W' co' cc' bs ∧ W'.ownsRow H 5 1 (.slice co' n cc') n (bs.map bv) ∧ Below H w W' := fun W' hk => by
    obtain ⟨k, rfl⟩ := hk
    refine ⟨co, cc, rfl, hr.drewN k, owns_same (owns_mono ho (by rw [HB0.out.2.2]; omega)) (fun g _ => rfl), ?_⟩
    exact HW.out.trans (⟨rfl, rfl, rfl, Nat.le_refl _, fun _ _ => rfl⟩)
  clear hr ho hb1 HC HB0 hW0
  go_wp2
  go_loopw [7] (fun iv wr => ∃ i q : Nat, i ≤ m ∧ iv = .int .i64 (i : Int) ∧ wr = W1.drewN q) (fun iv _ => m - (intOf iv).toNat)
  case atStart => exact ⟨0, 0, Nat.zero_le _, rfl, rfl⟩
  case round =>
    obtain ⟨i, q, hi, rfl, rfl⟩ := hrel
    have c4 : W1.cell? ⟨H, 4, none⟩ = some (.int .i64 (m : Int)) := blk_at HX.out 4
    by_cases hlt : i < m
    · have c0 : W1.cell? ⟨H, 0, none⟩ = some (.int .i64 1) := blk_at HX.out 0
      have c2 : W1.cell? ⟨H, 2, none⟩ = some (.int .i64 (-1)) := blk_at HX.out 2
      have c3 : W1.cell? ⟨H, 3, none⟩ = some (.int .i64 (off : Int)) := blk_at HX.out 3
      have c5 : W1.cell? ⟨H, 5, none⟩ = some (.slice da k dc) := blk_at HX.out 5
      have n9 : decide ((i : Int) < (m : Int)) = true := by simp; omega
      have ii0 : (0 : Int) ≤ (i : Int) := by omega
      have ii9 : (i : Int) < (m : Int) := by omega
      go_wp2
      go_quiet (fail)
      go_wp2
      go_roundw
      case rel => exact ⟨i + 1, _, by omega, by go_num, rfl⟩
      case measure => simp [intOf]; omega
    · have n9 : decide ((i : Int) < (m : Int)) = false := by simp; omega
      obtain rfl : i = m := by omega
      go_wp2
      go_ret2
      exact fin _ ⟨_, rfl⟩
set_option maxHeartbeats 4000000 in
/-- the document plays what has no length -/
theorem rPlay_none (bo da : Option Addr) (cap dc n mm off : Nat) (bs : List Nat) (k fr t : Int) (sy : Bool) (w : World) (hb : BRow w bo cap bs) (hn : bs.length = n) (hs : n ≤ 4096) :
    Calls Try.prog 30 #[.slice bo n cap, .agg #[.int .i64 k, .int .i64 fr, .int .i64 t, .int .i64 (off : Int), .int .i64 0, .slice da mm dc, .bool sy]] w fun e w' => ∃ co cc, e = .returned (.tuple #[.slice co n cc, .bool true]) ∧ BRow w' co cc bs ∧ w'.ownsRow w.heap.size 5 1 (.slice co n cc) n (bs.map bv) ∧ Below w.heap.size w w' := by
  obtain ⟨H, hH⟩ : ∃ H, w.heap.size = H := ⟨_, rfl⟩
  obtain ⟨W0, hW0⟩ : ∃ W0, W0 = w.alloc (.cells #[.int .i64 k, .int .i64 fr, .int .i64 t, .int .i64 (off : Int), .int .i64 0, .slice da mm dc, .bool sy] 50) := ⟨_, rfl⟩
  have b0 : Below H w W0 := by rw [hW0, ← hH]; exact (Below.refl _ w).alloc (Nat.le_refl _) _
  have hx0 : W0.heap[H]? = some (.cells #[.int .i64 k, .int .i64 fr, .int .i64 t, .int .i64 (off : Int), .int .i64 0, .slice da mm dc, .bool sy] 50 (0, 0)) := by rw [hW0, ← hH]; exact heap_new _ _
  have hz0 : W0.heap.size = H + 1 := by rw [hW0, World.size_alloc, hH]
  have HC : Hid _ := copy_any bo cap n bs W0 (hb.later (by rw [hH]; exact b0)) hn
  have HD : Hid (bs.length = n ∧ w.heap.size = H) := ⟨hn, hH⟩
  have HB0 : Hid (Below H w W0 ∧ W0.heap[H]? = some (.cells #[.int .i64 k, .int .i64 fr, .int .i64 t, .int .i64 (off : Int), .int .i64 0, .slice da mm dc, .bool sy] 50 (0, 0)) ∧ W0.heap.size = H + 1) := ⟨b0, hx0, hz0⟩
  rw [hH]
  rw [hW0] at HC
  clear hb hn b0 hx0 hz0
  go_enter Try.func30, Try.ntmps30
  go_wp2_with fail
  refine Calls.mono HC.out ?_
  rintro e W1 ⟨co, cc, rfl, hr, ho, hb1⟩
  rw [← hW0] at ho hb1
  have HE : Hid (BRow W1 co cc bs ∧ W1.ownsRow W0.heap.size 5 1 (.slice co n cc) n (bs.map bv) ∧ Below W0.heap.size W0 W1) := ⟨hr, ho, hb1⟩
  have HX : Hid (W1.heap[H]? = some (.cells #[.int .i64 k, .int .i64 fr, .int .i64 t, .int .i64 (off : Int), .int .i64 0, .slice da mm dc, .bool sy] 50 (0, 0))) := (hb1.block H (by rw [HB0.out.2.2]; omega)).trans HB0.out.2.1
  have HW : Hid (Below H w W1) := HB0.out.1.trans (hb1.mono (by rw [HB0.out.2.2]; omega))
  have fin : ∀ W', (∃ k, W' = W1.drewN k) → ∃ co' cc', Ending.returned (.tuple #[.slice co n cc, .bool true]) = Ending.returned (.tuple #[.slice co' n cc', .bool true]) ∧ BRow W' co' cc' bs ∧ W'.ownsRow H 5 1 (.slice co' n cc') n (bs.map bv) ∧ Below H w W' := fun W' hk => by
    obtain ⟨k, rfl⟩ := hk
    refine ⟨co, cc, rfl, hr.drewN k, owns_same (owns_mono ho (by rw [HB0.out.2.2]; omega)) (fun g _ => rfl), ?_⟩
    exact HW.out.trans (⟨rfl, rfl, rfl, Nat.le_refl _, fun _ _ => rfl⟩)
  clear hr ho hb1 HC HB0 hW0
  go_wp2
  go_loopw [7] (fun iv wr => iv = .int .i64 0 ∧ wr = W1) (fun iv _ => 0)
  case atStart => exact ⟨rfl, rfl⟩
  case round =>
    obtain ⟨rfl, rfl⟩ := hrel
    have c4 : wr.cell? ⟨H, 4, none⟩ = some (.int .i64 0) := blk_at HX.out 4
    go_wp2
    go_ret2
    exact fin _ ⟨0, rfl⟩
end Go.Proofs.Ytjkoambfecmglaa

namespace Go.Proofs.Ytjkoambfecmglaa
open Go.RowKit
set_option linter.unusedVariables false
set_option linter.unusedSimpArgs false
set_option maxRecDepth 100000
/-- the bytes behind an operation -/
def Opv.eff (o : Opv) (bs ds : List Nat) : List Nat := if o.k = 2 then laidTo bs ds o.off.toNat o.len.toNat else if o.k = 3 then laidTo bs (List.replicate o.len.toNat 0) o.off.toNat o.len.toNat else bs
/-- does its answer fit the bytes? -/
def Opv.fit (o : Opv) (bs ds : List Nat) : Bool := o.k != 1 || !o.ans || decide ((bs.drop o.off.toNat).take o.len.toNat = ds)
/-- what 'may' says, limb by limb -/
structure Opv.May (o : Opv) (n : Nat) : Prop where
  k1 : 1 ≤ o.k
  k4 : o.k ≤ 4
  fr0 : 0 ≤ o.fr
  to1 : o.to_ = -1 ∨ o.fr ≤ o.to_
  off0 : 0 ≤ o.off
  len0 : 0 ≤ o.len
  offn : o.off ≤ n
  lenn : o.len ≤ (n : Int) - o.off
  fl : o.k = 4 → o.off = 0 ∧ o.len = 0
  sy : o.sy = true → o.to_ ≠ -1 ∧ o.k ≠ 1
  da : if o.k = 2 ∨ (o.k = 1 ∧ o.to_ ≠ -1) then (o.n : Int) = o.len else o.n = 0
theorem Opv.may_of {o : Opv} {n : Nat} (h : o.may n = true) : o.May n := by
  unfold Opv.may at h
  by_cases a1 : o.k < 1
  · rw [if_pos a1] at h; cases h
  rw [if_neg a1] at h
  by_cases a2 : 4 < o.k
  · rw [if_pos a2] at h; cases h
  rw [if_neg a2] at h
  by_cases a3 : o.fr < 0
  · rw [if_pos a3] at h; cases h
  rw [if_neg a3] at h
  by_cases a4 : o.to_ ≠ -1 ∧ o.to_ < o.fr
  · rw [if_pos a4] at h; cases h
  rw [if_neg a4] at h
  by_cases a5 : o.off < 0
  · rw [if_pos a5] at h; cases h
  rw [if_neg a5] at h
  by_cases a6 : o.len < 0
  · rw [if_pos a6] at h; cases h
  rw [if_neg a6] at h
  by_cases a7 : (n : Int) < o.off
  · rw [if_pos a7] at h; cases h
  rw [if_neg a7] at h
  by_cases a8 : (n : Int) - o.off < o.len
  · rw [if_pos a8] at h; cases h
  rw [if_neg a8] at h
  by_cases a9 : o.k = 4 ∧ (o.off ≠ 0 ∨ o.len ≠ 0)
  · rw [if_pos a9] at h; cases h
  rw [if_neg a9] at h
  by_cases b0 : o.sy = true ∧ (o.to_ = -1 ∨ o.k = 1)
  · rw [if_pos b0] at h; cases h
  rw [if_neg b0] at h
  refine ⟨by omega, by omega, by omega, by omega, by omega, by omega, by omega, by omega, by omega, fun hs => ⟨fun e => b0 ⟨hs, .inl e⟩, fun e => b0 ⟨hs, .inr e⟩⟩, ?_⟩
  by_cases b1 : o.k = 2 ∨ (o.k = 1 ∧ o.to_ ≠ -1)
  · rw [if_pos b1] at h ⊢; simpa using h
  · rw [if_neg b1] at h ⊢; simpa using h
/-- the document plays any operation that may be -/
theorem rPlay_any (bo : Option Addr) (cap n : Nat) (o : Opv) (bs ds : List Nat) (w : World) (hb : BRow w bo cap bs) (hn : bs.length = n) (hd : BRow w o.da o.dc ds) (hm : ds.length = o.n) (ho : o.may n = true) (hs : n ≤ 4096) :
    Calls Try.prog 30 #[.slice bo n cap, .agg o.cells] w fun e w' => ∃ co cc b bs', e = .returned (.tuple #[.slice co n cc, .bool b]) ∧ b = o.fit bs ds ∧ (b = true → bs' = o.eff bs ds) ∧ bs'.length = n ∧ BRow w' co cc bs' ∧ w'.ownsRow w.heap.size 5 1 (.slice co n cc) n (bs'.map bv) ∧ Below w.heap.size w w' := by
  have M := Opv.may_of ho
  obtain ⟨k, fr, t, off, len, da, dn, dc, sy⟩ := o
  obtain ⟨k1, k4, fr0, to1, off0, len0, offn, lenn, fl, -, hda⟩ := M
  simp only at k1 k4 fr0 to1 off0 len0 offn lenn fl hda hd hm
  obtain ⟨off, rfl⟩ := Int.eq_ofNat_of_zero_le off0
  obtain ⟨len, rfl⟩ := Int.eq_ofNat_of_zero_le len0
  by_cases e4 : k = 4
  · subst e4
    obtain ⟨-, h0⟩ := fl rfl
    obtain rfl : len = 0 := by omega
    refine Calls.mono (rPlay_none bo da cap dc n dn off bs 4 fr t sy w hb hn hs) ?_
    rintro e w' ⟨co, cc, rfl, h1, h2, h3⟩
    exact ⟨co, cc, true, bs, rfl, rfl, fun _ => rfl, hn, h1, h2, h3⟩
  by_cases e3 : k = 3
  · subst e3
    refine Calls.mono (rPlay_zero bo da cap dc n len off dn bs fr t sy w hb hn (by omega) hs) ?_
    rintro e w' ⟨co, cc, rfl, h1, h2, h3⟩
    exact ⟨co, cc, true, laidTo bs (List.replicate len 0) off len, rfl, rfl, fun _ => rfl, (laidTo_len (by omega) (by simp)).trans hn, h1, h2, h3⟩
  by_cases e2 : k = 2
  · subst e2
    rw [if_pos (.inl rfl)] at hda
    obtain rfl : dn = len := by omega
    refine Calls.mono (rPlay_write bo da cap dc n dn off bs ds fr t sy w hb hn hd hm (by omega) hs) ?_
    rintro e w' ⟨co, cc, rfl, h1, h2, h3⟩
    exact ⟨co, cc, true, laidTo bs ds off dn, rfl, rfl, fun _ => rfl, (laidTo_len (by omega) (by omega)).trans hn, h1, h2, h3⟩
  · obtain rfl : k = 1 := by omega
    by_cases ht : t = -1
    · subst ht
      rw [if_neg (by simp)] at hda
      obtain rfl : dn = 0 := hda
      refine Calls.mono (rPlay_askN bo da cap dc n 0 len off bs fr sy w hb hn (by omega) hs) ?_
      rintro e w' ⟨co, cc, rfl, h1, h2, h3⟩
      exact ⟨co, cc, true, bs, rfl, rfl, fun _ => rfl, hn, h1, h2, h3⟩
    · rw [if_pos (.inr ⟨rfl, ht⟩)] at hda
      obtain rfl : dn = len := by omega
      refine Calls.mono (rPlay_read bo da cap dc n dn off bs ds fr t sy w hb hn hd hm ht (by omega) hs) ?_
      rintro e w' ⟨co, cc, rfl, h1, h2, h3⟩
      refine ⟨co, cc, _, bs, rfl, ?_, fun _ => rfl, hn, h1, h2, h3⟩
      have f1 : (t != -1) = true := by rw [bne_iff_ne]; exact ht
      simp [Opv.fit, Opv.ans, f1]
end Go.Proofs.Ytjkoambfecmglaa
