import Derived.Test.YtckfmpoddmccfaaU53
namespace Go.Proofs.Ytckfmpoddmccfaa
open Go.RowKit
set_option linter.unusedVariables false
set_option linter.unusedSimpArgs false
set_option maxRecDepth 100000
theorem wantsQ {w : World} {B b : Nat} {v : Value} {rm ov : Nat} {l : List Nat} (h : RIn w B b v rm ov l) (bo : Option Addr) (bn bc m : Nat) (z x : Bool) (a : Int) (kd : Int) (hm : m < 4294967296) :
    Calls Try.prog 15 #[.pointer (some ⟨b, 0, none⟩), .agg #[.int .i64 kd, .slice bo bn bc, .int .u32 (m : Int), .bool z, .bool x, .int .i64 a]] w fun e w' => ∃ (q : Cg) (ov' : Nat) (l' : List Nat) (v' : Value) (ao2 : Option Addr) (cap2 : Nat), e = .returned (.agg #[.int .i64 (q.c : Int), .int .u64 (q.k0 : Int), .int .u64 (q.k1 : Int), .int .u64 (q.k2 : Int), .int .u64 (q.k3 : Int), .int .u64 (q.k4 : Int), .int .u64 (q.k5 : Int), .int .u64 (q.k6 : Int), .int .u64 (q.k7 : Int), .slice ao2 q.g.length cap2]) ∧ cgD kd m z x a ov l = (q.tup, ov', l') ∧ RIn w' B b v' rm ov' l' ∧ RAct w w' b v v' ∧ w'.ownsRow w.heap.size 5 1 (.slice ao2 q.g.length cap2) q.g.length (q.g.map bv) ∧ ∀ g, (Value.slice ao2 q.g.length cap2).ownBlock = some g → v'.ownBlock ≠ some g := by
  refine (wantsR_any h bo bn bc m z x a kd hm).mono ?_
  rintro e w' ⟨cu, n0, n1, n2, n3, n4, n5, n6, n7, d, ov', l', v', ao2, cap2, he, hx, hI, hA, hr, hn⟩
  exact ⟨⟨cu, n0, n1, n2, n3, n4, n5, n6, n7, d⟩, ov', l', v', ao2, cap2, he, hx, hI, hA, hr, hn⟩
theorem cg_eq {X : (Nat × Nat × Nat × Nat × Nat × Nat × Nat × Nat × Nat × List Nat) × Nat × List Nat} {p q : Cg} {o1 o2 : Nat} {m1 m2 : List Nat} (h1 : X = (p.tup, o1, m1)) (h2 : X = (q.tup, o2, m2)) : q = p ∧ o2 = o1 ∧ m2 = m1 := by
  rw [h1] at h2
  simp only [Cg.tup, Prod.mk.injEq] at h2
  obtain ⟨⟨e0, e1, e2, e3, e4, e5, e6, e7, e8, e9⟩, e10, e11⟩ := h2
  cases q; cases p
  simp_all
theorem Lc.brow {w W : World} {b1 : Nat} {v1 : Value} {rm ov1 : Nat} {l1 : List Nat} {B2 b2 : Nat} {v2 : Value} {ov2 : Nat} {l2 : List Nat} {tv : Value} {n : Nat} {L : Nat → Value} {len : Nat → Nat} {bs : List (Nat × Array Value × TypeId)} {rs : List (Value × List Nat)} (h : Lc w W b1 v1 rm ov1 l1 B2 b2 v2 ov2 l2 tv n L len bs rs) {ao : Option Addr} {cap : Nat} {d : List Nat} (hm : (Value.slice ao d.length cap, d) ∈ rs) (hd : ∀ y ∈ d, y < 256) (hl : d.length ≤ 140737488351232) : BRow W ao cap d := by
  obtain ⟨q1, q2, e, hb⟩ := BRow.own (h.row _ hm).1 hd hl
  simp only [Value.slice.injEq] at e
  obtain ⟨rfl, _, rfl⟩ := e
  exact hb
theorem lc_start {w w1 w2 : World} {b' B' r : Nat} (hI : Inb w1 w.heap.size w.heap.size (.slice none 0 0) r 0 []) (hR : RIn w1 B' b' (.slice none 0 0) r 0 []) (hB' : w.heap.size ≤ B') (hne : b' ≠ w.heap.size) (hb : Below w.heap.size w w1) (hb2 : Below w1.heap.size w1 w2) :
    Lc w w2 w.heap.size (.slice none 0 0) r 0 [] B' b' (.slice none 0 0) 0 [] (.slice none 0 0) 0 (fun _ => .slice none 0 0) (fun _ => 0) [] [] := by
  refine ⟨hI.later hb2, hR.later hb2, hB', ?_, hb.trans (hb2.mono hb.size), by simp, by simp, World.ownsRow_nil _ _ _ _, fun i hi => by omega, fun i j hi => by omega, fun i hi => by omega, fun i hi => by omega, by omega⟩
  rintro g (rfl | hx) (e | e)
  · exact hne e.symm
  · simp [Value.ownBlock] at e
  · simp [Value.ownBlock] at hx
  · simp [Value.ownBlock] at hx
set_option maxHeartbeats 8000000 in
theorem frameCuts_good (r : Nat) (h1 : 1 ≤ r) (h2 : r ≤ 2097152) (so : Option Addr) (sc : Nat) (ops : List OpF) (w : World) (hs : SRow w so sc ops) (hby : ∀ o ∈ ops, ∃ m : List Nat, m.length = o.bn ∧ m.length ≤ 1099511627776 ∧ CRow w o.bo o.bc m) :
    Calls Try.prog 4 #[.int .i64 (r : Int), .slice so ops.length sc] w fun e w' => e = .returned (.bool true) ∧ Below w.heap.size w w' := by
  obtain ⟨i1, hi', hz0', hz1', hz2'⟩ := info_parts infoBS
  have H1 : Hid (Calls Try.prog 9 #[.int .i64 (r : Int)] w fun e w' => MadeP w r e w') := madeA r h1 h2 w
  have HS : Hid _ := hs
  have HBy : Hid _ := hby
  obtain ⟨sn, hsn⟩ : ∃ sn, ops.length = sn := ⟨_, rfl⟩
  have HSN : Hid (ops.length = sn) := hsn
  have hs1 : sn ≤ 1048576 := by rw [← hsn]; exact hs.len
  rw [hsn]
  clear hs hby hsn
  have HSc : Hid (∀ (i : Nat), i < sn → ∃ (kd : Int) (bo : Option Addr) (ms : List Nat) (bc m : Nat) (z x : Bool) (a : Int) (b off : Nat), m < 4294967296 ∧ ms.length ≤ 1099511627776 ∧ CRow w bo bc ms ∧ so = some ⟨b, off, none⟩ ∧ ∀ W, Below w.heap.size w W → W.cell? ⟨b, off + i * 6, none⟩ = some (.int .i64 kd) ∧ W.cell? ⟨b, off + i * 6 + 1, none⟩ = some (.slice bo ms.length bc) ∧ W.cell? ⟨b, off + i * 6 + 2, none⟩ = some (.int .u32 (m : Int)) ∧ W.cell? ⟨b, off + i * 6 + 3, none⟩ = some (.bool z) ∧ W.cell? ⟨b, off + i * 6 + 4, none⟩ = some (.bool x) ∧ W.cell? ⟨b, off + i * 6 + 5, none⟩ = some (.int .i64 a)) := fun i hi => by
    have hlen := HSN.out
    have hne : ops ≠ [] := by rintro rfl; simp at hlen; omega
    obtain ⟨b, off, e, hc⟩ := HS.out.at_ hne
    have hi' : i < ops.length := by omega
    obtain ⟨ms, e1, e2, e3⟩ := HBy.out _ (List.getElem_mem hi')
    refine ⟨ops[i].kd, ops[i].bo, ms, ops[i].bc, ops[i].m, ops[i].z, ops[i].x, ops[i].a, b, off, HS.out.ok _ (List.getElem_mem hi'), e2, e3, e, fun W hb => ?_⟩
    rw [e1]
    exact ⟨cell_later hb ((hc i hi' 0 (by decide)).trans rfl), cell_later hb ((hc i hi' 1 (by decide)).trans rfl), cell_later hb ((hc i hi' 2 (by decide)).trans rfl), cell_later hb ((hc i hi' 3 (by decide)).trans rfl), cell_later hb ((hc i hi' 4 (by decide)).trans rfl), cell_later hb ((hc i hi' 5 (by decide)).trans rfl)⟩
  clear HS HBy HSN
  go_enter Try.func4, Try.ntmps4
  go_wp2_with fail
  refine H1.out.mono ?_
  rintro e w1 ⟨b', B', rfl, hI, hR, hB', hne, hb⟩
  have H2 : Hid (Calls Try.prog 10 #[] w1 fun e w' => e = .returned (.bool true) ∧ Below w1.heap.size w1 w') := heads_any w1
  have HI : Hid _ := hI
  have HR : Hid _ := hR
  have HB : Hid _ := hb
  clear hI hR hb H1
  go_wp2_with fail
  refine H2.out.mono ?_
  rintro e w2 ⟨rfl, hb⟩
  have H3 : Hid _ := lc_start HI.out HR.out hB' hne HB.out hb
  clear HI HR HB hb H2
  go_wp2_with fail
  go_loopw [8, 9] (fun tv iv wr => ∃ (i n : Nat) (u1 u2 : Value) (ov : Nat) (l : List Nat) (L : Nat → Value) (len : Nat → Nat) (ta : Option Addr) (tc : Nat), tv = .slice ta n tc ∧ iv = .int .i64 (i : Int) ∧ i ≤ sn ∧ Hid (Lc w wr w.heap.size u1 r ov l B' b' u2 ov l (.slice ta n tc) n L len [] [])) (fun _ iv _ => sn - (intOf iv).toNat)
  case atStart => exact ⟨0, 0, _, _, 0, [], _, _, none, 0, rfl, rfl, Nat.zero_le _, H3⟩
  case round =>
    obtain ⟨i, n, u1, u2, ov, l, L, len, ta, tc, rfl, rfl, hi, HP⟩ := hrel
    clear H3
    by_cases hlt : i < sn
    · obtain ⟨kd, bo, ms, bc, m, z, x, a, sb, off, hm, hms, hcr, hso, hcs⟩ := HSc.out i hlt
      subst hso
      obtain ⟨c0, c1, c2, c3, c4, c5⟩ := hcs _ HP.out.bel
      have HCr : Hid (CRow w bo bc ms) := hcr
      obtain ⟨ob, hob⟩ : ∃ ob, wr.heap.size = ob := ⟨_, rfl⟩
      have hq := HP.out.alloc #[.int .i64 kd, .slice bo ms.length bc, .int .u32 (m : Int), .bool z, .bool x, .int .i64 a] 38 (by decide)
      rw [hob] at hq
      obtain ⟨bn, hbn⟩ : ∃ bn, ms.length = bn := ⟨_, rfl⟩
      have HBn : Hid (ms.length = bn) := hbn
      rw [hbn] at hq c1 hms
      generalize hWa : wr.alloc (.cells #[.int .i64 kd, .slice bo bn bc, .int .u32 (m : Int), .bool z, .bool x, .int .i64 a] 38) = Wa at hq
      have HQ : Hid _ := hq
      have HWa : Hid _ := hWa
      obtain ⟨o0, _⟩ := HQ.out.c (.head _) 0
      obtain ⟨o1, _⟩ := HQ.out.c (.head _) 1
      obtain ⟨o2, _⟩ := HQ.out.c (.head _) 2
      obtain ⟨o3, _⟩ := HQ.out.c (.head _) 3
      obtain ⟨o4, _⟩ := HQ.out.c (.head _) 4
      obtain ⟨o5, _⟩ := HQ.out.c (.head _) 5
      simp at o0 o1 o2 o3 o4 o5
      clear hcs hq hcr hbn
      by_cases hk1 : kd = 1
      · subst hk1
        have HF : Hid (Calls Try.prog 13 #[.pointer (some ⟨w.heap.size, 0, none⟩), .pointer (some ⟨b', 0, none⟩), .slice bo bn bc] Wa fun e w' => FedP Wa w.heap.size w.heap.size u1 B' b' u2 r ov l ms e w') := by
          have := fedA HQ.out.x HQ.out.y HQ.out.ap bo bc ms (fun W hW => HCr.out.later (HQ.out.hand hW)) (by rw [HBn.out]; exact hms)
          rw [HBn.out] at this
          exact this
        go_wp2_with fail
        refine HF.out.mono ?_
        rintro e Wb ⟨rfl, v3, v4, hI, hR, hap, hK, f1, f2⟩
        have HN : Hid _ := (HQ.out.fed hI hR hap hK f1 f2).drop
        clear hI hR hap hK f1 f2 HF HQ HP
        go_wp2
        go_roundw
        case rel => exact ⟨i + 1, n, v3, v4, _, _, L, len, ta, tc, rfl, by go_num, by omega, HN⟩
        case measure => simp [intOf]; omega
      · have s1 : (kd == 1) = false := by simpa using hk1
        by_cases hk10 : kd = 10
        · subst hk10
          obtain ⟨ya, yc, hy, _⟩ := HQ.out.y.row.crow
          have k1 : Wa.cell? ⟨b', 1, none⟩ = some (.slice ya l.length yc) := by rw [← hy]; exact HQ.out.y.c 1
          have HH : Hid (∀ q, Calls Try.prog 11 #[.pointer (some ⟨w.heap.size, 0, none⟩)] (Wa.drewN q) fun e w' => e = .returned (.int .i64 (l.length : Int)) ∧ w' = Wa.drewN q) := fun q => heldI (HQ.out.x.drewN q)
          have HRm : Hid (∀ q, Calls Try.prog 12 #[.pointer (some ⟨w.heap.size, 0, none⟩)] (Wa.drewN q) fun e w' => e = .returned (.int .i64 ((r - l.length : Nat) : Int)) ∧ ∃ q', w' = (Wa.drewN q).drewN q') := fun q => roomI (HQ.out.x.drewN q)
          have hle := HQ.out.x.le
          have hwl : IntKind.i64.wrap ((r : Int) - (l.length : Int)) = ((r - l.length : Nat) : Int) := by rw [IntKind.wrap_i64]; omega
          clear hy
          go_wp2
          go_quiet (first | (go_at_call 11; exact Calls.quiet_of_same (HH.out _)) | (go_at_call 12; exact Calls.quiet_of (HRm.out _)) | fail)
          go_wp2
          go_roundw
          case rel => exact ⟨i + 1, n, u1, u2, ov, l, L, len, ta, tc, rfl, by go_num, by omega, (HQ.out.drewN _).drop⟩
          case measure => simp [intOf]; omega
        · have s2 : (kd == 10) = false := by simpa using hk10
          have HX : Hid _ := cutsQ HQ.out.x bo bn bc m z x a kd hm
          go_wp2_with fail
          refine Calls.mono HX.out ?_
          rintro e Wb ⟨p, ovx, lx, vx, ao2, cap2, rfl, hcg, hI, hA, hr, hn⟩
          have HG1 : Hid (cgD kd m z x a ov l = (p.tup, ovx, lx)) := hcg
          obtain ⟨wb, hwb⟩ : ∃ wb, Wb.heap.size = wb := ⟨_, rfl⟩
          have hq6 := (HQ.out.cutx hI hA hr hn).alloc #[.int .i64 (p.c : Int), .int .u64 (p.k0 : Int), .int .u64 (p.k1 : Int), .int .u64 (p.k2 : Int), .int .u64 (p.k3 : Int), .int .u64 (p.k4 : Int), .int .u64 (p.k5 : Int), .int .u64 (p.k6 : Int), .int .u64 (p.k7 : Int), .slice ao2 p.g.length cap2] TCu (by decide)
          rw [hwb] at hq6
          generalize hWc : Wb.alloc (.cells #[.int .i64 (p.c : Int), .int .u64 (p.k0 : Int), .int .u64 (p.k1 : Int), .int .u64 (p.k2 : Int), .int .u64 (p.k3 : Int), .int .u64 (p.k4 : Int), .int .u64 (p.k5 : Int), .int .u64 (p.k6 : Int), .int .u64 (p.k7 : Int), .slice ao2 p.g.length cap2] TCu) = Wc at hq6
          have H6 : Hid _ := hq6
          have HY : Hid _ := wantsQ hq6.y bo bn bc m z x a kd hm
          have HLb : Hid (∀ y ∈ l, y < 256) := HP.out.x.row.lt
          have HLn : Hid (l.length ≤ r) := HP.out.x.le
          clear HX hcg hI hA hr hn HQ hWa HWa c0 c1 c2 c3 c4 c5 o0 o1 o2 o3 o4 o5 hq6 s1 s2 hob HP
          have o0 : Wc.cell? ⟨ob, 0, none⟩ = some (.int .i64 kd) := (H6.out.c (.tail _ (.head _)) 0).1
          have o1 : Wc.cell? ⟨ob, 1, none⟩ = some (.slice bo bn bc) := (H6.out.c (.tail _ (.head _)) 1).1
          have o2 : Wc.cell? ⟨ob, 2, none⟩ = some (.int .u32 (m : Int)) := (H6.out.c (.tail _ (.head _)) 2).1
          have o3 : Wc.cell? ⟨ob, 3, none⟩ = some (.bool z) := (H6.out.c (.tail _ (.head _)) 3).1
          have o4 : Wc.cell? ⟨ob, 4, none⟩ = some (.bool x) := (H6.out.c (.tail _ (.head _)) 4).1
          have o5 : Wc.cell? ⟨ob, 5, none⟩ = some (.int .i64 a) := (H6.out.c (.tail _ (.head _)) 5).1
          go_wp2_with fail
          refine Calls.mono HY.out ?_
          rintro e Wd ⟨q, ovy, ly, vy, ao3, cap3, rfl, hcg, hI, hA, hr, hn⟩
          obtain ⟨e1, e2, e3⟩ := cg_eq HG1.out hcg
          subst e1 e2 e3
          obtain ⟨gb, hgb⟩ : ∃ gb, Wd.heap.size = gb := ⟨_, rfl⟩
          have hq8 := (H6.out.cuty hI hA hr hn).alloc #[.int .i64 (q.c : Int), .int .u64 (q.k0 : Int), .int .u64 (q.k1 : Int), .int .u64 (q.k2 : Int), .int .u64 (q.k3 : Int), .int .u64 (q.k4 : Int), .int .u64 (q.k5 : Int), .int .u64 (q.k6 : Int), .int .u64 (q.k7 : Int), .slice ao3 q.g.length cap3] TCu (by decide)
          rw [hgb] at hq8
          generalize hWe : Wd.alloc (.cells #[.int .i64 (q.c : Int), .int .u64 (q.k0 : Int), .int .u64 (q.k1 : Int), .int .u64 (q.k2 : Int), .int .u64 (q.k3 : Int), .int .u64 (q.k4 : Int), .int .u64 (q.k5 : Int), .int .u64 (q.k6 : Int), .int .u64 (q.k7 : Int), .slice ao3 q.g.length cap3] TCu) = We at hq8
          have H8 : Hid (Lc w We w.heap.size vx r ovy ly B' b' vy ovy ly (.slice ta n tc) n L len [(gb, #[.int .i64 (q.c : Int), .int .u64 (q.k0 : Int), .int .u64 (q.k1 : Int), .int .u64 (q.k2 : Int), .int .u64 (q.k3 : Int), .int .u64 (q.k4 : Int), .int .u64 (q.k5 : Int), .int .u64 (q.k6 : Int), .int .u64 (q.k7 : Int), .slice ao3 q.g.length cap3], TCu), (wb, #[.int .i64 (q.c : Int), .int .u64 (q.k0 : Int), .int .u64 (q.k1 : Int), .int .u64 (q.k2 : Int), .int .u64 (q.k3 : Int), .int .u64 (q.k4 : Int), .int .u64 (q.k5 : Int), .int .u64 (q.k6 : Int), .int .u64 (q.k7 : Int), .slice ao2 q.g.length cap2], TCu), (ob, #[.int .i64 kd, .slice bo bn bc, .int .u32 (m : Int), .bool z, .bool x, .int .i64 a], 38)] [(.slice ao3 q.g.length cap3, q.g), (.slice ao2 q.g.length cap2, q.g)]) := hq8
          have hsub := cgD_sub kd m z x a ov l
          rw [HG1.out] at hsub
          have hd : ∀ y ∈ q.g, y < 256 := fun y hy => HLb.out y (hsub.subset hy)
          have hdl : q.g.length ≤ 2097152 := Nat.le_trans hsub.length_le (Nat.le_trans HLn.out h2)
          have HDl : Hid (q.g.length ≤ 2097152) := hdl
          have HSm : Hid _ := sameG We q.c q.k0 q.k1 q.k2 q.k3 q.k4 q.k5 q.k6 q.k7 q.g ao2 ao3 cap2 cap3 (H8.out.brow (.tail _ (.head _)) hd (by omega)) (H8.out.brow (.head _) hd (by omega))
          clear hI hA hr hn hcg H6 HY hWc hwb o0 o1 o2 o3 o4 o5 hq8 hsub hd hdl HG1 HLb HLn
          have x0 : We.cell? ⟨wb, 0, none⟩ = some (.int .i64 (q.c : Int)) := (H8.out.c (.tail _ (.head _)) 0).1
          have x1 : We.cell? ⟨wb, 1, none⟩ = some (.int .u64 (q.k0 : Int)) := (H8.out.c (.tail _ (.head _)) 1).1
          have x2 : We.cell? ⟨wb, 2, none⟩ = some (.int .u64 (q.k1 : Int)) := (H8.out.c (.tail _ (.head _)) 2).1
          have x3 : We.cell? ⟨wb, 3, none⟩ = some (.int .u64 (q.k2 : Int)) := (H8.out.c (.tail _ (.head _)) 3).1
          have x4 : We.cell? ⟨wb, 4, none⟩ = some (.int .u64 (q.k3 : Int)) := (H8.out.c (.tail _ (.head _)) 4).1
          have x5 : We.cell? ⟨wb, 5, none⟩ = some (.int .u64 (q.k4 : Int)) := (H8.out.c (.tail _ (.head _)) 5).1
          have x6 : We.cell? ⟨wb, 6, none⟩ = some (.int .u64 (q.k5 : Int)) := (H8.out.c (.tail _ (.head _)) 6).1
          have x7 : We.cell? ⟨wb, 7, none⟩ = some (.int .u64 (q.k6 : Int)) := (H8.out.c (.tail _ (.head _)) 7).1
          have x8 : We.cell? ⟨wb, 8, none⟩ = some (.int .u64 (q.k7 : Int)) := (H8.out.c (.tail _ (.head _)) 8).1
          have x9 : We.cell? ⟨wb, 9, none⟩ = some (.slice ao2 q.g.length cap2) := (H8.out.c (.tail _ (.head _)) 9).1
          have y0 : We.cell? ⟨gb, 0, none⟩ = some (.int .i64 (q.c : Int)) := (H8.out.c (.head _) 0).1
          have y1 : We.cell? ⟨gb, 1, none⟩ = some (.int .u64 (q.k0 : Int)) := (H8.out.c (.head _) 1).1
          have y2 : We.cell? ⟨gb, 2, none⟩ = some (.int .u64 (q.k1 : Int)) := (H8.out.c (.head _) 2).1
          have y3 : We.cell? ⟨gb, 3, none⟩ = some (.int .u64 (q.k2 : Int)) := (H8.out.c (.head _) 3).1
          have y4 : We.cell? ⟨gb, 4, none⟩ = some (.int .u64 (q.k3 : Int)) := (H8.out.c (.head _) 4).1
          have y5 : We.cell? ⟨gb, 5, none⟩ = some (.int .u64 (q.k4 : Int)) := (H8.out.c (.head _) 5).1
          have y6 : We.cell? ⟨gb, 6, none⟩ = some (.int .u64 (q.k5 : Int)) := (H8.out.c (.head _) 6).1
          have y7 : We.cell? ⟨gb, 7, none⟩ = some (.int .u64 (q.k6 : Int)) := (H8.out.c (.head _) 7).1
          have y8 : We.cell? ⟨gb, 8, none⟩ = some (.int .u64 (q.k7 : Int)) := (H8.out.c (.head _) 8).1
          have y9 : We.cell? ⟨gb, 9, none⟩ = some (.slice ao3 q.g.length cap3) := (H8.out.c (.head _) 9).1
          go_wp2_with fail
          refine Calls.mono HSm.out ?_
          rintro e Wf ⟨rfl, hbf⟩
          have H9 : Hid _ := H8.out.later hbf
          clear HSm H8 hbf hWe hgb x0 y0 x1 y1 x2 y2 x3 y3 x4 y4 x5 y5 x6 y6 x7 y7 x8 y8 x9 y9
          have x9 : Wf.cell? ⟨wb, 9, none⟩ = some (.slice ao2 q.g.length cap2) := (H9.out.c (.tail _ (.head _)) 9).1
          have n8 := H9.out.n8
          by_cases hn8 : n < 8
          · have e8 : (n : Int) < 8 := by omega
            have HT : Hid (∀ o, (Wf.alloc o).ownsRow w.heap.size 22 1 (.slice ta n tc) n ((List.range n).map L)) := fun o => H9.out.told.alloc o
            have HZ : Hid (w.heap.size ≤ Wf.heap.size) := H9.out.bel.size
            go_wp2_with (at_builtin; refine wpList_append_two _ rfl (.tmp 87) (.tmp 90) 35 rfl w.heap.size 22 i1 (.slice none 0 0) 24 Try.underlying35 hi' hz0' hz1' hz2' rfl (.slice ta n tc) n _ rfl (HT.out _) (some ⟨Wf.heap.size, 0, none⟩) 1 1 [.slice ao2 q.g.length cap2] rfl (by simp) rfl (news_one _ _ _) (by simp [Value.oneCell']) (by unfold maxLen; omega) (by omega) (by have := HZ.out; simp; omega) ?_)
            intro u' w3 ho hg _
            have hadd := H9.out.add (.tail _ (.head _)) (by have := HDl.out; omega) hn8 ((Below.refl _ _).alloc (Nat.le_refl _) _) ho hg
            obtain ⟨lb, cp, hu⟩ : ∃ lb cp, u' = .slice (some ⟨lb, 0, none⟩) (n + 1) cp := by
              rcases ho.2 with ⟨hv, h0⟩ | ⟨g, cap, cur, hv, _⟩
              · omega
              · exact ⟨g, cap, hv⟩
            subst hu
            have HAd : Hid _ := hadd
            have HM : Hid _ := own_some w.heap.size lb 0 (n + 1) cp _ _ w3 (by omega) hadd.lists
            clear hadd ho hg HT HZ H9 x9
            go_wp2_with fail
            refine Calls.mono HM.out ?_
            rintro e Wg ⟨rfl, hk, ho⟩
            have HN : Hid _ := HAd.out.marked hk ho
            clear hk ho HAd HM
            go_wp2
            go_roundw
            case rel => exact ⟨i + 1, n + 1, vx, vy, ovy, ly, _, _, some ⟨lb, 0, none⟩, cp, rfl, by go_num, by omega, HN⟩
            case measure => simp [intOf]; omega
          · have e8 : ¬ ((n : Int) < 8) := by omega
            obtain ⟨lb, hu⟩ : ∃ lb, ta = some ⟨lb, 0, none⟩ := by
              rcases H9.out.told.2 with ⟨hv, h0⟩ | ⟨g, cap, cur, hv, _⟩
              · omega
              · simp only [Value.slice.injEq] at hv
                exact ⟨g, hv.1⟩
            subst hu
            have HM : Hid _ := own_some w.heap.size lb 0 n tc _ _ Wf (by omega) H9.out.lists
            go_wp2_with fail
            refine Calls.mono HM.out ?_
            rintro e Wg ⟨rfl, hk, ho⟩
            have HN : Hid _ := H9.out.marked hk ho
            clear hk ho H9 HM
            go_wp2
            go_roundw
            case rel => exact ⟨i + 1, n, vx, vy, ovy, ly, L, len, some ⟨lb, 0, none⟩, tc, rfl, by go_num, by omega, HN⟩
            case measure => simp [intOf]; omega
    · have hin : i = sn := by omega
      subst hin
      obtain ⟨ya, yc, hy, _⟩ := HP.out.y.row.crow
      have k1 : wr.cell? ⟨b', 1, none⟩ = some (.slice ya l.length yc) := by rw [← hy]; exact HP.out.y.c 1
      have HH : Hid (∀ q, Calls Try.prog 11 #[.pointer (some ⟨w.heap.size, 0, none⟩)] (wr.drewN q) fun e w' => e = .returned (.int .i64 (l.length : Int)) ∧ w' = wr.drewN q) := fun q => heldI (HP.out.x.drewN q)
      clear hy
      go_wp2
      go_quiet (first | (go_at_call 11; exact Calls.quiet_of_same (HH.out _)) | fail)
      go_wp2
      go_ret
      exact ⟨rfl, HP.out.bel.trans ⟨rfl, rfl, rfl, Nat.le_refl _, fun _ _ => rfl⟩⟩
end Go.Proofs.Ytckfmpoddmccfaa
