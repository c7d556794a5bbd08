import Derived.Test.YtckfmpoddmccfaaV53
import Derived.Test.YtckfmpoddmccfaaV50
import Derived.Deep.DeepCutAuto
namespace Go.Proofs.Ytckfmpoddmccfaa
open Go.RowKit
set_option linter.unusedVariables false
set_option linter.unusedSimpArgs false
set_option maxRecDepth 100000
theorem inb_low {w : World} {B B' b : Nat} {rm : Nat} (h : Inb w B b (.slice none 0 0) rm 0 []) (hb : B' ≤ b) : Inb w B' b (.slice none 0 0) rm 0 [] :=
  ⟨h.blk, ⟨by simp, by simp, .inl (World.ownsRow_nil _ _ _ _)⟩, hb, h.r1, h.r2, h.le, h.ov4⟩
theorem py_start {w W1 W2 W3 : World} {rm : Nat} (h1 : Below w.heap.size w W1) (hx : Inb W2 W1.heap.size W1.heap.size (.slice none 0 0) rm 0 []) (b2 : Below W1.heap.size W1 W2) (hy : Inb W3 W2.heap.size W2.heap.size (.slice none 0 0) rm 0 []) (b3 : Below W2.heap.size W2 W3) :
    Py w W3 W1.heap.size (.slice none 0 0) rm 0 [] W2.heap.size (.slice none 0 0) 0 [] [] [] := by
  have hlt := block_lt hx.blk
  have h1s := h1.size
  refine ⟨(inb_low hx h1.size).later b3, inb_low hy (Nat.le_trans h1.size b2.size), ?_, (h1.trans (b2.mono h1.size)).trans (b3.mono (Nat.le_trans h1.size b2.size)), by simp, by simp, by simp⟩
  rintro g (e | e) (k | k)
  · omega
  · simp [Value.ownBlock] at k
  · simp [Value.ownBlock] at e
  · simp [Value.ownBlock] at e
theorem piece_ix (i kk pn : Nat) (hpn : 0 < pn) : ∃ ix, ix < pn ∧ ((i : Int) + (kk : Int)).tmod (pn : Int) = (ix : Int) :=
  ⟨(i + kk) % pn, Nat.mod_lt _ hpn, by
    have := tmod_cast (i + kk) pn
    rw [Int.natCast_add] at this
    exact this⟩
theorem piece_wrap {n at2 n1 : Nat} (h : at2 + n1 ≤ n) (hn : n < 2097152) : IntKind.i64.wrap ((at2 : Int) + (n1 : Int)) = (at2 : Int) + (n1 : Int) := by rw [IntKind.wrap_i64]; omega
theorem piece_kk {at2 kk n1 : Nat} (h : kk ≤ at2) (h1 : 1 ≤ n1) : kk + 1 ≤ at2 + n1 := by omega
theorem piece_less {n at2 n1 : Nat} (h1 : 1 ≤ n1) (h2 : at2 + n1 ≤ n) : n - (intOf (Value.int IntKind.i64 ((at2 : Int) + (n1 : Int)))).toNat < n - (intOf (Value.int IntKind.i64 (at2 : Int))).toNat := by simp [intOf]; omega
theorem piece_ne {pn : Nat} (h : 0 < pn) : ¬ ((pn : Int) = 0) := by omega
theorem piece_le {n at2 mo : Nat} (h : at2 < n) (hm : mo < n - at2 + 1) : at2 + mo ≤ n := by omega
theorem piece_pos {n at2 : Nat} (h : at2 < n) : 1 ≤ n - at2 := by omega
theorem piece_add {n at2 : Nat} (h : at2 < n) : at2 + (n - at2) ≤ n := by omega
theorem piece_sub {n at2 : Nat} (h : at2 < n) : Value.int .i64 ((n : Int) - (at2 : Int)) = Value.int .i64 ((n - at2 : Nat) : Int) := by
  rw [Int.ofNat_sub (Nat.le_of_lt h)]
theorem piece_mod (zz : Int) (n at2 : Nat) (h : at2 < n) (hn : n < 2097152) : ∃ mo : Nat, (IntKind.u64.wrap zz).tmod ((n : Int) - (at2 : Int) + 1) = (mo : Int) ∧ mo < n - at2 + 1 ∧ wrap64 (mo : Int) = (mo : Int) ∧ IntKind.i64.wrap (mo : Int) = (mo : Int) ∧ ¬ ((n : Int) - (at2 : Int) + 1 = 0) := by
  have h0 : 0 ≤ IntKind.u64.wrap zz := by rw [IntKind.wrap_u64]; omega
  obtain ⟨R, hR⟩ : ∃ R : Nat, (n : Int) - (at2 : Int) + 1 = (R : Int) := ⟨n - at2 + 1, by omega⟩
  rw [hR]
  have h1 : 0 ≤ (IntKind.u64.wrap zz).tmod (R : Int) := Int.tmod_nonneg _ h0
  have h2 : (IntKind.u64.wrap zz).tmod (R : Int) < (R : Int) := Int.tmod_lt_of_pos _ (by omega)
  obtain ⟨mo, hm⟩ := Int.eq_ofNat_of_zero_le h1
  rw [hm] at h2
  refine ⟨mo, hm, by omega, ?_, ?_, by omega⟩
  · unfold wrap64; omega
  · rw [IntKind.wrap_i64]; omega
theorem last_feed {l l1 l2 : List Nat} {n at_ ov1 ov2 R : Nat} (hL : l.length = n) (h : Rel (l.drop at_) ov1 l1 ov2 l2) (hl1 : l1.length ≤ n + 1) (hR : n - at_ = R) :
    min (R - min R ov2) (n + 1 - l2.length) = R - min R ov2 ∧ l1.length = (l2 ++ ((l.drop at_).drop (min R ov2)).take (R - min R ov2)).length := by
  obtain ⟨q1, q2, q3⟩ := h
  have hd : (l.drop at_).length = R := by rw [List.length_drop, hL]; exact hR
  by_cases h0 : 0 < ov2
  · have e := q1 h0
    subst e
    refine ⟨by simp; omega, ?_⟩
    rw [q2]
    simp only [List.nil_append, List.length_drop, List.length_take, hd]
    simp only [List.length_drop] at hd
    omega
  · have e0 : ov2 = 0 := by omega
    subst e0
    have e1 : l1.length = l2.length + R := by rw [q2]; simp only [List.drop_zero, List.length_append, hd]
    refine ⟨by omega, ?_⟩
    rw [e1]
    simp only [Nat.min_zero, Nat.sub_zero, List.drop_zero, List.length_append, List.length_take, hd]
    omega
set_option maxHeartbeats 8000000 in
theorem framePieces_in (ao : Option Addr) (cap : Nat) (l : List Nat) (po : Option Addr) (pn pc : Nat) (so : Option Addr) (sc : Nat) (ops : List OpF) (w : World) (h : CRow w ao cap l) (hl : l.length < 2097152) (hs : SRow w so sc ops) (hp : IRow w po pn pc) :
    Calls Try.prog 5 #[.slice ao l.length cap, .slice po pn pc, .slice so ops.length sc] w fun e w' => e = .returned (.bool true) ∧ Below w.heap.size w w' := by
  have HH : Hid (Calls Try.prog 10 #[] w fun e w' => e = .returned (.bool true) ∧ Below w.heap.size w w') := heads_any w
  have HC : Hid _ := h
  have HS : Hid _ := hs
  have HPi : Hid (IRow w po pn pc) := hp
  obtain ⟨n, hn⟩ : ∃ n, l.length = n := ⟨_, rfl⟩
  have HL : Hid (l.length = n) := hn
  rw [hn] at hl
  rw [hn]
  obtain ⟨sn, hsn⟩ : ∃ sn, ops.length = sn := ⟨_, rfl⟩
  have HSN : Hid (ops.length = sn) := hsn
  have hs1 : sn ≤ 1048576 := by rw [← hsn]; exact hs.len
  rw [hsn]
  have HNw : Hid (∀ W : World, Calls Try.prog 18 #[.int .i64 ((n : Int) + 1)] W fun e w' => e = .returned (.tuple #[.pointer (some ⟨W.heap.size, 0, none⟩), .int .i64 0]) ∧ Inb w' W.heap.size W.heap.size (.slice none 0 0) (n + 1) 0 [] ∧ Below W.heap.size W w') := fun W => by
    have := newI (n + 1) (by omega) (by omega) W
    simpa using this
  have t0 : IntKind.i64.wrap ((n : Int) + 1) = (n : Int) + 1 := by simp [IntKind.wrap, IntKind.bits, IntKind.signed]; omega
  have t1 : decide ((2097152 : Int) < (n : Int) + 1) = false := by simp; omega
  have t2 : ¬ ((2097152 : Int) < (n : Int) + 1) := by omega
  clear h hs hn hsn hp
  go_enter Try.func5, Try.ntmps5
  go_wp2_with fail
  refine HH.out.mono ?_
  rintro e W1 ⟨rfl, hb1⟩
  have HB1 : Hid _ := hb1
  clear HH hb1
  go_wp2_with fail
  refine (HNw.out W1).mono ?_
  rintro e W2 ⟨rfl, hx, hb2⟩
  have HX : Hid _ := hx
  have HB2 : Hid _ := hb2
  clear hx hb2
  go_wp2_with fail
  refine (HNw.out W2).mono ?_
  rintro e W3 ⟨rfl, hy, hb3⟩
  have H3 : Hid _ := py_start HB1.out HX.out HB2.out hy hb3
  clear HNw HX HB1 HB2 hy hb3
  generalize W1.heap.size = b1 at *
  generalize W2.heap.size = b2 at *
  have HF : Hid _ := feedI H3.out.x ao cap n l (HC.out.later H3.out.bel) HL.out (by omega) 0 n (by simp) (by simp)
  go_wp2_with fail
  refine Calls.mono HF.out ?_
  rintro e W4 ⟨rfl, v1, hI, hA⟩
  have hI' : Inb W4 w.heap.size b1 v1 (n + 1) 0 l := by
    have e : ([] : List Nat) ++ (l.drop 0).take n = l := by rw [← HL.out]; simp
    rw [e] at hI
    simpa using hI
  have H4 : Hid _ := H3.out.actx hI' hA
  clear H3 HF hI hI' hA t0 t1 t2
  have u1 : ((0 + n : Nat) : Int) = (n : Int) := by simp
  rw [u1]
  clear u1
  have HRl : Hid (Rel (l.drop 0) 0 l 0 []) := by show Rel _ _ _ _ _; simp [Rel]
  have HSc : Hid (∀ (i : Nat), i < sn → ∃ (kd : Int) (bo : Option Addr) (bn bc m : Nat) (z x : Bool) (a : Int) (b off : Nat), m < 4294967296 ∧ so = some ⟨b, off, none⟩ ∧ ∀ W, Below w.heap.size w W → W.cell? ⟨b, off + i * 6, none⟩ = some (.int .i64 kd) ∧ W.cell? ⟨b, off + i * 6 + 1, none⟩ = some (.slice bo bn bc) ∧ W.cell? ⟨b, off + i * 6 + 2, none⟩ = some (.int .u32 (m : Int)) ∧ W.cell? ⟨b, off + i * 6 + 3, none⟩ = some (.bool z) ∧ W.cell? ⟨b, off + i * 6 + 4, none⟩ = some (.bool x) ∧ W.cell? ⟨b, off + i * 6 + 5, none⟩ = some (.int .i64 a)) := fun i hi => by
    have hlen := HSN.out
    have hne : ops ≠ [] := by rintro rfl; simp at hlen; omega
    obtain ⟨b, off, e, hc⟩ := HS.out.at_ hne
    have hi' : i < ops.length := by omega
    refine ⟨ops[i].kd, ops[i].bo, ops[i].bn, ops[i].bc, ops[i].m, ops[i].z, ops[i].x, ops[i].a, b, off, HS.out.ok _ (List.getElem_mem hi'), e, fun W hb => ?_⟩
    exact ⟨cell_later hb ((hc i hi' 0 (by decide)).trans rfl), cell_later hb ((hc i hi' 1 (by decide)).trans rfl), cell_later hb ((hc i hi' 2 (by decide)).trans rfl), cell_later hb ((hc i hi' 3 (by decide)).trans rfl), cell_later hb ((hc i hi' 4 (by decide)).trans rfl), cell_later hb ((hc i hi' 5 (by decide)).trans rfl)⟩
  have H5 : Hid (Py w W4 b1 v1 (n + 1) 0 l b2 (.slice none 0 0) 0 [] [] [] ∧ Rel (l.drop 0) 0 l 0 []) := ⟨H4.out, HRl.out⟩
  clear H4 HRl
  go_wp2_with fail
  go_loopw [12, 13] (fun av iv wr => ∃ (at_ i : Nat) (u1 u2 : Value) (ov1 ov2 : Nat) (l1 l2 : List Nat), av = .int .i64 (at_ : Int) ∧ iv = .int .i64 (i : Int) ∧ at_ ≤ n ∧ i ≤ sn ∧ Hid (Py w wr b1 u1 (n + 1) ov1 l1 b2 u2 ov2 l2 [] [] ∧ Rel (l.drop at_) ov1 l1 ov2 l2)) (fun av iv _ => sn - (intOf iv).toNat)
  case atStart => exact ⟨0, 0, v1, .slice none 0 0, 0, 0, l, [], rfl, rfl, Nat.zero_le _, Nat.zero_le _, H5⟩
  case round =>
    obtain ⟨at_, i, u1, u2, ov1, ov2, l1, l2, rfl, rfl, hat, hi, HP⟩ := hrel
    clear H5
    by_cases hlt : i < sn
    · obtain ⟨kd, bo, bn, bc, m, z, x, a, sb, off, hm, rfl, hcs⟩ := HSc.out i hlt
      obtain ⟨c0, c1, c2, c3, c4, c5⟩ := hcs _ HP.out.1.bel
      have g1 : 38 ≠ 5 := by decide
      have g2 : 38 ≠ TIn := by decide
      obtain ⟨ob, hob⟩ : ∃ ob, wr.heap.size = ob := ⟨_, rfl⟩
      have hq := HP.out.1.alloc #[.int .i64 kd, .slice bo bn bc, .int .u32 (m : Int), .bool z, .bool x, .int .i64 a] 38 g1 g2
      rw [hob] at hq
      generalize hWa : wr.alloc (.cells #[.int .i64 kd, .slice bo bn bc, .int .u32 (m : Int), .bool z, .bool x, .int .i64 a] 38) = Wa at hq
      have HQ : Hid _ := hq
      have HWa : Hid _ := hWa
      obtain ⟨o0, _⟩ := HQ.out.c (.head _) 0
      obtain ⟨o1, _⟩ := HQ.out.c (.head _) 1
      obtain ⟨o2, _⟩ := HQ.out.c (.head _) 2
      obtain ⟨o3, _⟩ := HQ.out.c (.head _) 3
      obtain ⟨o4, _⟩ := HQ.out.c (.head _) 4
      obtain ⟨o5, _⟩ := HQ.out.c (.head _) 5
      simp at o0 o1 o2 o3 o4 o5
      clear hcs hq
      by_cases hkd : kd < 2 ∨ 9 < kd
      · have t1 : kd < 2 ∨ 9 < kd := hkd
        rcases hkd with hk | hk
        · have s1 : decide (kd < 2) = true := by simpa using hk
          go_wp2
          go_roundw
          case rel => exact ⟨at_, i + 1, u1, u2, ov1, ov2, l1, l2, rfl, by go_num, hat, by omega, ⟨HQ.out.drop (List.nil_sublist _) (by simp), HP.out.2⟩⟩
          case measure => simp [intOf]; omega
        · have s1 : ¬ (kd < 2) := by omega
          have s2 : decide (kd < 2) = false := by simpa using s1
          have s4 : decide (9 < kd) = true := by simpa using hk
          go_wp2
          go_roundw
          case rel => exact ⟨at_, i + 1, u1, u2, ov1, ov2, l1, l2, rfl, by go_num, hat, by omega, ⟨HQ.out.drop (List.nil_sublist _) (by simp), HP.out.2⟩⟩
          case measure => simp [intOf]; omega
      · have s1 : ¬ (kd < 2) := by omega
        have s2 : decide (kd < 2) = false := by simpa using s1
        have s3 : ¬ (9 < kd) := by omega
        have s4 : decide (9 < kd) = false := by simpa using s3
        have hk29 : 2 ≤ kd ∧ kd ≤ 9 := by omega
        have HX : Hid _ := cutsQ HQ.out.x bo bn bc m z x a kd hm
        go_wp2_with fail
        refine Calls.mono HX.out ?_
        rintro e Wb ⟨p, ovx, lx, vx, ao2, cap2, rfl, hcg, hI, hA, hr, hn⟩
        have f1 : TCu ≠ 5 := by decide
        have f2 : TCu ≠ TIn := by decide
        have HG1 : Hid (cgD kd m z x a ov1 l1 = (p.tup, ovx, lx)) := hcg
        obtain ⟨wb, hwb⟩ : ∃ wb, Wb.heap.size = wb := ⟨_, rfl⟩
        have hq6 := (HQ.out.toldx hI hA hr hn).alloc #[.int .i64 (p.c : Int), .int .u64 (p.k0 : Int), .int .u64 (p.k1 : Int), .int .u64 (p.k2 : Int), .int .u64 (p.k3 : Int), .int .u64 (p.k4 : Int), .int .u64 (p.k5 : Int), .int .u64 (p.k6 : Int), .int .u64 (p.k7 : Int), .slice ao2 p.g.length cap2] TCu f1 f2
        rw [hwb] at hq6
        generalize hWc : Wb.alloc (.cells #[.int .i64 (p.c : Int), .int .u64 (p.k0 : Int), .int .u64 (p.k1 : Int), .int .u64 (p.k2 : Int), .int .u64 (p.k3 : Int), .int .u64 (p.k4 : Int), .int .u64 (p.k5 : Int), .int .u64 (p.k6 : Int), .int .u64 (p.k7 : Int), .slice ao2 p.g.length cap2] TCu) = Wc at hq6
        have H6 : Hid _ := hq6
        have HY : Hid _ := cutsQ hq6.y bo bn bc m z x a kd hm
        clear HX hcg hI hA hr hn HQ hWa HWa c0 c1 c2 c3 c4 c5 o0 o1 o2 o3 o4 o5 hq6 s1 s2 s3 s4 hob
        have o0 : Wc.cell? ⟨ob, 0, none⟩ = some (.int .i64 kd) := (H6.out.c (.tail _ (.head _)) 0).1
        have o1 : Wc.cell? ⟨ob, 1, none⟩ = some (.slice bo bn bc) := (H6.out.c (.tail _ (.head _)) 1).1
        have o2 : Wc.cell? ⟨ob, 2, none⟩ = some (.int .u32 (m : Int)) := (H6.out.c (.tail _ (.head _)) 2).1
        have o3 : Wc.cell? ⟨ob, 3, none⟩ = some (.bool z) := (H6.out.c (.tail _ (.head _)) 3).1
        have o4 : Wc.cell? ⟨ob, 4, none⟩ = some (.bool x) := (H6.out.c (.tail _ (.head _)) 4).1
        have o5 : Wc.cell? ⟨ob, 5, none⟩ = some (.int .i64 a) := (H6.out.c (.tail _ (.head _)) 5).1
        go_wp2_with fail
        refine Calls.mono HY.out ?_
        rintro e Wd ⟨q, ovy, ly, vy, ao3, cap3, rfl, hcg, hI, hA, hr, hn⟩
        obtain ⟨gb, hgb⟩ : ∃ gb, Wd.heap.size = gb := ⟨_, rfl⟩
        have hq7 := (H6.out.toldy hI hA hr hn).alloc #[.int .i64 (q.c : Int), .int .u64 (q.k0 : Int), .int .u64 (q.k1 : Int), .int .u64 (q.k2 : Int), .int .u64 (q.k3 : Int), .int .u64 (q.k4 : Int), .int .u64 (q.k5 : Int), .int .u64 (q.k6 : Int), .int .u64 (q.k7 : Int), .slice ao3 q.g.length cap3] TCu f1 f2
        rw [hgb] at hq7
        generalize hWe : Wd.alloc (.cells #[.int .i64 (q.c : Int), .int .u64 (q.k0 : Int), .int .u64 (q.k1 : Int), .int .u64 (q.k2 : Int), .int .u64 (q.k3 : Int), .int .u64 (q.k4 : Int), .int .u64 (q.k5 : Int), .int .u64 (q.k6 : Int), .int .u64 (q.k7 : Int), .slice ao3 q.g.length cap3] TCu) = We at hq7
        have H8 : Hid (Lp w We b1 b2 ob wb gb n ⟨kd, bo, bn, bc, m, z, x, a⟩ p ao2 cap2 vx ovx lx ov1 l1 l at_ q ao3 cap3 vy ovy ly ov2 l2) := ⟨hq7, hcg, HP.out.2⟩
        have HLb : Hid (∀ y ∈ l1, y < 256) := HP.out.1.x.row.lt
        have HLn : Hid (l1.length ≤ n + 1) := HP.out.1.x.le
        clear HY hcg hI hA hr hn H6 hWc o0 o1 o2 o3 o4 o5 hq7 hwb HP HSc f1 f2 g1 g2
        go_wp2_with fail
        clear hWe hgb
        go_loopw [12, 17] (fun av kv wq => ∃ (at2 kk : Nat) (q : Cg) (ao3 : Option Addr) (cap3 : Nat) (vy : Value) (ovy : Nat) (ly : List Nat) (ovp : Nat) (lp : List Nat), av = .int .i64 (at2 : Int) ∧ kv = .int .i64 (kk : Int) ∧ at2 ≤ n ∧ kk ≤ at2 ∧ Hid (Lp w wq b1 b2 ob wb gb n ⟨kd, bo, bn, bc, m, z, x, a⟩ p ao2 cap2 vx ovx lx ov1 l1 l at2 q ao3 cap3 vy ovy ly ovp lp)) (fun av kv _ => n - (intOf av).toNat)
        case atStart => exact ⟨at_, 0, q, ao3, cap3, vy, ovy, ly, ov2, l2, rfl, rfl, hat, Nat.zero_le _, H8⟩
        case round =>
          clear H8
          obtain ⟨at2, kk, r, ao4, cap4, vz, ovz, lz, ovp, lp, rfl, rfl, hat2, hkk, H9⟩ := hrel
          have r0 : wr.cell? ⟨gb, 0, none⟩ = some (.int .i64 (r.c : Int)) := (H9.out.py.c (.head _) 0).1
          by_cases hgo : r.c = 0 ∧ at2 < n
          · have e3 : (at2 : Int) < (n : Int) := by omega
            have e2 : ((r.c : Int) == 0) = true := by rw [hgo.1]; rfl
            have Hgo : Hid (r.c = 0 ∧ at2 < n) := hgo
            have hltn : at2 < n := hgo.2
            clear hgo
            go_upto_if 99 with fail
            go_cut [18, 19] from 82 to 136 (fun v s wc => ∃ n1 : Nat, v = .int .i64 (n1 : Int) ∧ 1 ≤ n1 ∧ at2 + n1 ≤ n ∧ wc = wr)
            case first =>
              by_cases hpn : 0 < pn
              · obtain ⟨pb, pof, hpo, hcell⟩ := (HPi.out.later H9.out.py.bel).pos hpn
                subst hpo
                have hpl := HPi.out.len
                obtain ⟨ix, hixl, hrm⟩ := piece_ix i kk pn hpn
                obtain ⟨zz, hz⟩ := hcell ix hixl
                clear hcell
                have hpz : (0 : Int) < (pn : Int) := Int.ofNat_lt.2 hpn
                have hpz2 : ¬ ((pn : Int) = 0) := piece_ne hpn
                have hixz : (ix : Int) < (pn : Int) := Int.ofNat_lt.2 hixl
                obtain ⟨mo, hm1, hmn, hm2, hm3, hdz⟩ := piece_mod zz n at2 hltn hl
                by_cases hmo : 0 < mo
                · have hmo2 : (0 : Int) < (mo : Int) := Int.ofNat_lt.2 hmo
                  go_wp2_with fail
                  go_meet
                  exact ⟨mo, rfl, hmo, piece_le hltn hmn, rfl⟩
                · have hmo2 : ¬ ((0 : Int) < (mo : Int)) := fun e => hmo (Int.ofNat_lt.1 e)
                  go_wp2_with fail
                  go_meet
                  exact ⟨n - at2, piece_sub hltn, piece_pos hltn, piece_add hltn, rfl⟩
              · have hpz : ¬ ((0 : Int) < (pn : Int)) := by omega
                go_wp2_with fail
                go_meet
                exact ⟨n - at2, piece_sub hltn, piece_pos hltn, piece_add hltn, rfl⟩
            case rest =>
              obtain ⟨n1, rfl, h1, h2, hwc⟩ := hcut
              have hwc2 := hwc.symm
              subst hwc2
              clear hwc
              have hlne : l ≠ [] := by
                intro e0
                have := HL.out
                rw [e0] at this
                simp at this
                omega
              obtain ⟨ab, aof, hao, _⟩ := HC.out.row.at_ hlne
              subst hao
              have hcp1 := HC.out.cap1
              have hcp2 := HC.out.cap2
              rw [HL.out] at hcp1
              have HN1 : Hid (((l.drop at2).take n1).length = n1) := by show _ = _; rw [List.length_take, List.length_drop, HL.out]; omega
              have hcr : CRow wr (some ⟨ab, aof + at2, none⟩) (cap - at2) ((l.drop at2).take n1) := by
                have hb := (HC.out.later H9.out.py.bel).part at2 n1 (by rw [HL.out]; omega) _ rfl
                rw [if_neg (by omega)] at hb
                exact ⟨hb, by rw [HN1.out]; omega, by omega⟩
              obtain ⟨hroom, hfd⟩ := H9.out.feed hk29 HL.out Hgo.out.1 HLn.out n1 h1 h2
              have HFd := feedI H9.out.py.y (some ⟨ab, aof + at2, none⟩) (cap - at2) n1 ((l.drop at2).take n1) hcr HN1 (by omega) _ _ rfl hroom
              rw [show min n1 ovz + (n1 - min n1 ovz) = n1 by omega] at HFd
              have HFe : Hid _ := HFd
              have HNx : Hid _ := hfd
              clear HFd hfd hroom hcr
              have q2 : IntKind.i64.wrap ((at2 : Int) + (n1 : Int)) = (at2 : Int) + (n1 : Int) := by rw [IntKind.wrap_i64]; omega
              have q3 : (at2 : Int) ≤ (at2 : Int) + (n1 : Int) := by omega
              have q4 : (at2 : Int) + (n1 : Int) ≤ (cap : Int) := by omega
              have q7 : ¬ (cap = at2) := by omega
              have q8 : ¬ (cap - at2 = 0) := by omega
              have q6 : ((at2 : Int) + (n1 : Int) - (at2 : Int)).toNat = n1 := by omega
              go_wp2_with fail
              refine Calls.mono HFe.out ?_
              rintro e Wf ⟨rfl, vf, hI, hA⟩
              have hd := HNx.out Wf vf hI hA
              clear hI hA HNx HFe HN1 q2 q3 q4 q6 q7 q8 hcp1 hcp2 r0 H9
              generalize ovz - min n1 ovz = ovf at hd
              generalize lz ++ (((l.drop at2).take n1).drop (min n1 ovz)).take (n1 - min n1 ovz) = lf at hd
              have HD : Hid _ := hd
              have HQ2 : Hid _ := cutsQ hd.py.y bo bn bc m z x a kd hm
              clear hd
              have o0 : Wf.cell? ⟨ob, 0, none⟩ = some (.int .i64 kd) := (HD.out.py.c (.tail _ (.tail _ (.head _))) 0).1
              have o1 : Wf.cell? ⟨ob, 1, none⟩ = some (.slice bo bn bc) := (HD.out.py.c (.tail _ (.tail _ (.head _))) 1).1
              have o2 : Wf.cell? ⟨ob, 2, none⟩ = some (.int .u32 (m : Int)) := (HD.out.py.c (.tail _ (.tail _ (.head _))) 2).1
              have o3 : Wf.cell? ⟨ob, 3, none⟩ = some (.bool z) := (HD.out.py.c (.tail _ (.tail _ (.head _))) 3).1
              have o4 : Wf.cell? ⟨ob, 4, none⟩ = some (.bool x) := (HD.out.py.c (.tail _ (.tail _ (.head _))) 4).1
              have o5 : Wf.cell? ⟨ob, 5, none⟩ = some (.int .i64 a) := (HD.out.py.c (.tail _ (.tail _ (.head _))) 5).1
              have q9 : IntKind.i64.wrap ((at2 : Int) + (n1 : Int)) = (at2 : Int) + (n1 : Int) := piece_wrap h2 hl
              go_wp2_with fail
              refine Calls.mono HQ2.out ?_
              rintro e Wg ⟨s, ovs, ls, vs, ao5, cap5, rfl, hcg, hI, hA, hr, hn⟩
              have hlp := HD.out.cut hcg hI hA hr hn
              have hpy := HD.out.py.toldy hI hA hr hn
              have HLp : Hid _ := hlp
              have t0 : Wg.cell? ⟨gb, 0, none⟩ = some (.int .i64 (r.c : Int)) := (hpy.c (.head _) 0).1
              have u0 : Wg.frozen? ⟨gb, 0, none⟩ = false := (hpy.c (.head _) 0).2
              have t1 : Wg.cell? ⟨gb, 1, none⟩ = some (.int .u64 (r.k0 : Int)) := (hpy.c (.head _) 1).1
              have u1 : Wg.frozen? ⟨gb, 1, none⟩ = false := (hpy.c (.head _) 1).2
              have t2 : Wg.cell? ⟨gb, 2, none⟩ = some (.int .u64 (r.k1 : Int)) := (hpy.c (.head _) 2).1
              have u2 : Wg.frozen? ⟨gb, 2, none⟩ = false := (hpy.c (.head _) 2).2
              have t3 : Wg.cell? ⟨gb, 3, none⟩ = some (.int .u64 (r.k2 : Int)) := (hpy.c (.head _) 3).1
              have u3 : Wg.frozen? ⟨gb, 3, none⟩ = false := (hpy.c (.head _) 3).2
              have t4 : Wg.cell? ⟨gb, 4, none⟩ = some (.int .u64 (r.k3 : Int)) := (hpy.c (.head _) 4).1
              have u4 : Wg.frozen? ⟨gb, 4, none⟩ = false := (hpy.c (.head _) 4).2
              have t5 : Wg.cell? ⟨gb, 5, none⟩ = some (.int .u64 (r.k4 : Int)) := (hpy.c (.head _) 5).1
              have u5 : Wg.frozen? ⟨gb, 5, none⟩ = false := (hpy.c (.head _) 5).2
              have t6 : Wg.cell? ⟨gb, 6, none⟩ = some (.int .u64 (r.k5 : Int)) := (hpy.c (.head _) 6).1
              have u6 : Wg.frozen? ⟨gb, 6, none⟩ = false := (hpy.c (.head _) 6).2
              have t7 : Wg.cell? ⟨gb, 7, none⟩ = some (.int .u64 (r.k6 : Int)) := (hpy.c (.head _) 7).1
              have u7 : Wg.frozen? ⟨gb, 7, none⟩ = false := (hpy.c (.head _) 7).2
              have t8 : Wg.cell? ⟨gb, 8, none⟩ = some (.int .u64 (r.k7 : Int)) := (hpy.c (.head _) 8).1
              have u8 : Wg.frozen? ⟨gb, 8, none⟩ = false := (hpy.c (.head _) 8).2
              have t9 : Wg.cell? ⟨gb, 9, none⟩ = some (.slice ao4 r.g.length cap4) := (hpy.c (.head _) 9).1
              have u9 : Wg.frozen? ⟨gb, 9, none⟩ = false := (hpy.c (.head _) 9).2
              clear hlp hpy hcg hI hA hr hn HD HQ2 o0 o1 o2 o3 o4 o5
              go_wp2
              clear t0 t1 t2 t3 t4 t5 t6 t7 t8 t9 u0 u1 u2 u3 u4 u5 u6 u7 u8 u9
              go_roundw
              case rel => exact ⟨at2 + n1, kk + 1, s, ao5, cap5, vs, ovs, ls, ovf, lf, rfl, rfl, h2, piece_kk hkk h1, HLp⟩
              case measure => exact piece_less h1 h2
          · obtain ⟨hrp, br1, br2, krel⟩ := H9.out.exit HG1.out hk29 HL.out (by omega) HLb.out (by have := HLn.out; omega)
            subst hrp
            have HSm : Hid _ := sameG _ r.c r.k0 r.k1 r.k2 r.k3 r.k4 r.k5 r.k6 r.k7 r.g ao4 ao2 cap4 cap2 br1 br2
            have HKr : Hid _ := krel
            clear br1 br2 krel
            have y1 : wr.cell? ⟨gb, 1, none⟩ = some (.int .u64 (r.k0 : Int)) := (H9.out.py.c (.head _) 1).1
            have y2 : wr.cell? ⟨gb, 2, none⟩ = some (.int .u64 (r.k1 : Int)) := (H9.out.py.c (.head _) 2).1
            have y3 : wr.cell? ⟨gb, 3, none⟩ = some (.int .u64 (r.k2 : Int)) := (H9.out.py.c (.head _) 3).1
            have y4 : wr.cell? ⟨gb, 4, none⟩ = some (.int .u64 (r.k3 : Int)) := (H9.out.py.c (.head _) 4).1
            have y5 : wr.cell? ⟨gb, 5, none⟩ = some (.int .u64 (r.k4 : Int)) := (H9.out.py.c (.head _) 5).1
            have y6 : wr.cell? ⟨gb, 6, none⟩ = some (.int .u64 (r.k5 : Int)) := (H9.out.py.c (.head _) 6).1
            have y7 : wr.cell? ⟨gb, 7, none⟩ = some (.int .u64 (r.k6 : Int)) := (H9.out.py.c (.head _) 7).1
            have y8 : wr.cell? ⟨gb, 8, none⟩ = some (.int .u64 (r.k7 : Int)) := (H9.out.py.c (.head _) 8).1
            have y9 : wr.cell? ⟨gb, 9, none⟩ = some (.slice ao4 r.g.length cap4) := (H9.out.py.c (.head _) 9).1
            have x0 : wr.cell? ⟨wb, 0, none⟩ = some (.int .i64 (r.c : Int)) := (H9.out.py.c (.tail _ (.head _)) 0).1
            have x1 : wr.cell? ⟨wb, 1, none⟩ = some (.int .u64 (r.k0 : Int)) := (H9.out.py.c (.tail _ (.head _)) 1).1
            have x2 : wr.cell? ⟨wb, 2, none⟩ = some (.int .u64 (r.k1 : Int)) := (H9.out.py.c (.tail _ (.head _)) 2).1
            have x3 : wr.cell? ⟨wb, 3, none⟩ = some (.int .u64 (r.k2 : Int)) := (H9.out.py.c (.tail _ (.head _)) 3).1
            have x4 : wr.cell? ⟨wb, 4, none⟩ = some (.int .u64 (r.k3 : Int)) := (H9.out.py.c (.tail _ (.head _)) 4).1
            have x5 : wr.cell? ⟨wb, 5, none⟩ = some (.int .u64 (r.k4 : Int)) := (H9.out.py.c (.tail _ (.head _)) 5).1
            have x6 : wr.cell? ⟨wb, 6, none⟩ = some (.int .u64 (r.k5 : Int)) := (H9.out.py.c (.tail _ (.head _)) 6).1
            have x7 : wr.cell? ⟨wb, 7, none⟩ = some (.int .u64 (r.k6 : Int)) := (H9.out.py.c (.tail _ (.head _)) 7).1
            have x8 : wr.cell? ⟨wb, 8, none⟩ = some (.int .u64 (r.k7 : Int)) := (H9.out.py.c (.tail _ (.head _)) 8).1
            have x9 : wr.cell? ⟨wb, 9, none⟩ = some (.slice ao2 r.g.length cap2) := (H9.out.py.c (.tail _ (.head _)) 9).1
            by_cases h0 : r.c = 0
            · have e0 : ¬ ((at2 : Int) < (n : Int)) := by omega
              have e2 : ((r.c : Int) == 0) = true := by rw [h0]; rfl
              replace h0 : Hid (r.c = 0) := h0
              clear hgo
              go_wp2_with fail
              refine Calls.mono HSm.out ?_
              rintro e Wz ⟨rfl, hbz⟩
              have H10 : Hid _ := H9.out.py.later hbz
              clear H9 HSm hbz r0 y1 y2 y3 y4 y5 y6 y7 y8 y9 x0 x1 x2 x3 x4 x5 x6 x7 x8 x9
              go_wp2
              go_roundw
              case rel => exact ⟨at2, i + 1, vx, vz, ovx, ovz, lx, lz, rfl, by go_num, hat2, by omega, ⟨H10.out.drop (List.nil_sublist _) (by simp), HKr.out⟩⟩
              case measure => simp [intOf]; omega
            · have e1 : ¬ ((r.c : Int) = 0) := by omega
              have e2 : ((r.c : Int) == 0) = false := by simpa using e1
              go_wp2_with fail
              refine Calls.mono HSm.out ?_
              rintro e Wz ⟨rfl, hbz⟩
              have H10 : Hid _ := H9.out.py.later hbz
              clear H9 HSm hbz r0 y1 y2 y3 y4 y5 y6 y7 y8 y9 x0 x1 x2 x3 x4 x5 x6 x7 x8 x9
              go_wp2
              go_roundw
              case rel => exact ⟨at2, i + 1, vx, vz, ovx, ovz, lx, lz, rfl, by go_num, hat2, by omega, ⟨H10.out.drop (List.nil_sublist _) (by simp), HKr.out⟩⟩
              case measure => simp [intOf]; omega
    · have ei : i = sn := by omega
      have t3 : ¬ ((i : Int) < (sn : Int)) := by omega
      have t4 : decide ((i : Int) < (sn : Int)) = false := by simpa using t3
      by_cases hn2 : at_ < n
      · have t5 : (at_ : Int) < (n : Int) := Int.ofNat_lt.2 hn2
        have hlne : l ≠ [] := by
          intro e0
          have := HL.out
          rw [e0] at this
          simp at this
          omega
        obtain ⟨ab, aof, hao, _⟩ := HC.out.row.at_ hlne
        subst hao
        have hcp1 := HC.out.cap1
        have hcp2 := HC.out.cap2
        rw [HL.out] at hcp1
        obtain ⟨R, hR⟩ : ∃ R, n - at_ = R := ⟨_, rfl⟩
        have HN1 : Hid ((l.drop at_).length = R) := by show _ = _; rw [List.length_drop, HL.out]; exact hR
        have hcr : CRow wr (some ⟨ab, aof + at_, none⟩) (cap - at_) (l.drop at_) := by
          have hb := (HC.out.later HP.out.1.bel).part at_ R (by rw [HL.out]; omega) _ rfl
          rw [if_neg (by omega), List.take_of_length_le (by rw [HN1.out]; exact Nat.le_refl _)] at hb
          exact ⟨hb, by rw [HN1.out]; omega, by omega⟩
        obtain ⟨hroom, hfin⟩ := last_feed HL.out HP.out.2 HP.out.1.x.le hR
        have HFe : Hid _ := feedI HP.out.1.y (some ⟨ab, aof + at_, none⟩) (cap - at_) R (l.drop at_) hcr HN1 (by omega) _ _ rfl hroom
        have HFi : Hid _ := hfin
        clear hroom hfin hcr
        have q3 : (at_ : Int) ≤ (n : Int) := Int.le_of_lt t5
        have q4 : (n : Int) ≤ (cap : Int) := Int.ofNat_le.2 hcp1
        have q7 : ¬ (cap = at_) := by omega
        have q8 : ¬ (cap - at_ = 0) := by omega
        have q6 : ((n : Int) - (at_ : Int)).toNat = R := by omega
        have q5 : n - at_ = R := hR
        go_wp2_with fail
        refine Calls.mono HFe.out ?_
        rintro e Wf ⟨rfl, vf, hI, hA⟩
        have hp := HP.out.1.acty hI hA
        have HQ1 : Hid _ := heldI hp.x
        have HQ2 : Hid _ := heldI hp.y
        have HBe : Hid _ := hp.bel
        have hll := HFi.out
        clear hI hA hp HFe HFi HP
        generalize (l2 ++ ((l.drop at_).drop (min R ov2)).take (R - min R ov2)).length = K2 at hll HQ2
        go_wp2_with fail
        refine Calls.mono HQ1.out ?_
        rintro e Wx ⟨rfl, rfl⟩
        go_wp2_with fail
        refine Calls.mono HQ2.out ?_
        rintro e Wx ⟨rfl, rfl⟩
        go_wp2
        go_ret
        exact ⟨by simp [hll], HBe.out⟩
      · have t5 : ¬ ((at_ : Int) < (n : Int)) := by omega
        have t6 : decide ((at_ : Int) < (n : Int)) = false := by simpa using t5
        have er : l.drop at_ = [] := List.drop_eq_nil_of_le (by rw [HL.out]; omega)
        have hRe := HP.out.2
        rw [er] at hRe
        have HQ1 : Hid _ := heldI HP.out.1.x
        have HQ2 : Hid _ := heldI HP.out.1.y
        have hll : l1.length = l2.length := by
          obtain ⟨q1, q2, q3⟩ := hRe
          rw [q2]
          by_cases h0 : 0 < ov2
          · rw [q1 h0]; simp
          · have : ov2 = 0 := by omega
            subst this; simp
        have HBe : Hid _ := HP.out.1.bel
        clear hRe HP er
        go_wp2_with fail
        refine Calls.mono HQ1.out ?_
        rintro e Wx ⟨rfl, rfl⟩
        go_wp2_with fail
        refine Calls.mono HQ2.out ?_
        rintro e Wx ⟨rfl, rfl⟩
        go_wp2
        go_ret
        exact ⟨by simp [hll], HBe.out⟩
end Go.Proofs.Ytckfmpoddmccfaa
