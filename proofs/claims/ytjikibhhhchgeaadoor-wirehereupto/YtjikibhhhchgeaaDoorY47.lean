import Derived.Test.YtjikibhhhchgeaaDoorY35
import Derived.Test.YtjikibhhhchgeaaDoorY31
namespace Go.Proofs.YtjikibhhhchgeaaDoor
open Go.RowKit
set_option linter.unusedVariables false
set_option linter.unusedSimpArgs false
set_option maxRecDepth 100000
set_option maxHeartbeats 8000000 in
theorem packed_any (x : Bod) (w : World) (hx : x.ok w) (hT : Tabs w) :
    Calls Tryd.prog 7 #[.agg x.cells] w fun e w' => ∃ v l, e = .returned v ∧ Pks w w' v l ∧ l.map (fun r => (r.L, r.E)) = x.res := by
  obtain ⟨i0, hi, hz0, hz1, hz2⟩ := info_parts infoPk
  have HO : Hid (x.ok w) := hx
  have HT : Hid (Tabs w) := hT
  have HNum : Hid (∀ (e : Int) (w : World), Calls Tryd.prog 12 #[.int .i64 e] w fun r w' => r = .returned (.int .i64 e) ∧ w' = w) := num_any
  clear hT
  obtain ⟨⟨L0, E0⟩, hR0⟩ : ∃ r, rInfoC x.k x.sz x.fl x.s1 x.mn x.pf x.mx x.d1 = r := ⟨_, rfl⟩
  obtain ⟨⟨L1, E1⟩, hR1⟩ : ∃ r, rAskC x.s2 x.ks = r := ⟨_, rfl⟩
  obtain ⟨⟨L2, E2⟩, hR2⟩ : ∃ r, rMetasC x.s3 x.qs = r := ⟨_, rfl⟩
  obtain ⟨⟨L3, E3⟩, hR3⟩ : ∃ r, rMetaC x.mc x.s4 = r := ⟨_, rfl⟩
  obtain ⟨⟨L4, E4⟩, hR4⟩ : ∃ r, rServerC x.s5 x.m5 = r := ⟨_, rfl⟩
  obtain ⟨⟨L5, E5⟩, hR5⟩ : ∃ r, rStatusC x.wide x.cx x.rs = r := ⟨_, rfl⟩
  obtain ⟨⟨L6, E6⟩, hR6⟩ : ∃ r, rErrorC x.ec x.s7 x.pl x.ea = r := ⟨_, rfl⟩
  obtain ⟨⟨L7, E7⟩, hR7⟩ : ∃ r, rDataC x.off x.m8 = r := ⟨_, rfl⟩
  have HRes : Hid (x.res = [(L0, E0), (L1, E1), (L2, E2), (L3, E3), (L4, E4), (L5, E5), (L6, E6), (L7, E7), (hoL x.ho x.ln, 0)]) := by show _ = _; unfold Bod.res; rw [hR0, hR1, hR2, hR3, hR4, hR5, hR6, hR7]
  have HK0 : Hid (∀ W, Below w.heap.size w W → Calls Tryd.prog 31 #[.agg #[.int .u16 (x.k : Int), .int .u64 (x.sz : Int), .int .u16 (x.fl : Int), .string x.s1, .int .u32 (x.mn : Int), .int .u32 (x.pf : Int), .int .u32 (x.mx : Int), .slice x.a1 x.n1 x.c1]] W fun e w' => ∃ ao cap n, e = .returned (.tuple #[.slice ao n cap, .int .i64 (E0 : Int)]) ∧ L0.length = n ∧ Row W w' ao cap L0) := fun W hb => by
    have o := HO.out.later hb
    have h := pInfoC x.k x.sz x.fl x.s1 x.mn x.pf x.mx x.a1 x.n1 x.c1 x.d1 W o.hk o.hsz o.hfl o.h1 o.hmn o.hpf o.hmx o.r1 o.l1 o.b1 (HT.out.later hb)
    rw [hR0] at h
    exact h
  have HK1 : Hid (∀ W, Below w.heap.size w W → Calls Tryd.prog 32 #[.agg #[.string x.s2, .slice x.a2 x.n2 x.c2]] W fun e w' => ∃ ao cap n, e = .returned (.tuple #[.slice ao n cap, .int .i64 (E1 : Int)]) ∧ L1.length = n ∧ Row W w' ao cap L1) := fun W hb => by
    have o := HO.out.later hb
    have h := pAskC x.s2 x.a2 x.n2 x.c2 x.ks W o.r2 o.l2 o.h2 (HT.out.later hb)
    rw [hR1] at h
    exact h
  have HK2 : Hid (∀ W, Below w.heap.size w W → Calls Tryd.prog 33 #[.agg #[.string x.s3, .slice x.a3 x.n3 x.c3]] W fun e w' => ∃ ao cap n, e = .returned (.tuple #[.slice ao n cap, .int .i64 (E2 : Int)]) ∧ L2.length = n ∧ Row W w' ao cap L2) := fun W hb => by
    have o := HO.out.later hb
    have h := pMetasC x.s3 x.a3 x.n3 x.c3 x.qs W o.r3 o.l3 o.b3 o.h3 (HT.out.later hb)
    rw [hR2] at h
    exact h
  have HK3 : Hid (∀ W, Below w.heap.size w W → Calls Tryd.prog 34 #[.agg #[.int .u32 (x.mc : Int), .string x.s4]] W fun e w' => ∃ ao cap n, e = .returned (.tuple #[.slice ao n cap, .int .i64 (E3 : Int)]) ∧ L3.length = n ∧ Row W w' ao cap L3) := fun W hb => by
    have o := HO.out.later hb
    have h := pMetaC x.mc x.s4 W o.hmc o.h4 (HT.out.later hb)
    rw [hR3] at h
    exact h
  have HK4 : Hid (∀ W, Below w.heap.size w W → Calls Tryd.prog 35 #[.agg #[.string x.s5, .slice x.a5 x.n5 x.c5]] W fun e w' => ∃ ao cap n, e = .returned (.tuple #[.slice ao n cap, .int .i64 (E4 : Int)]) ∧ L4.length = n ∧ Row W w' ao cap L4) := fun W hb => by
    have o := HO.out.later hb
    have h := pServerC x.s5 x.n5 x.a5 x.c5 x.m5 W o.r5 o.l5 o.b5 o.h5 (HT.out.later hb)
    rw [hR4] at h
    exact h
  have HK5 : Hid (∀ W, Below w.heap.size w W → Calls Tryd.prog 36 #[.agg #[.int .u32 (x.cx : Int), .slice x.a6 x.n6 x.c6], .bool x.wide] W fun e w' => ∃ ao cap n, e = .returned (.tuple #[.slice ao n cap, .int .i64 (E5 : Int)]) ∧ L5.length = n ∧ Row W w' ao cap L5) := fun W hb => by
    have o := HO.out.later hb
    have h := pStatusC x.cx x.a6 x.n6 x.c6 x.wide x.rs W o.hcx o.r6 o.l6 o.b6
    rw [hR5] at h
    exact h
  have HK6 : Hid (∀ W, Below w.heap.size w W → Calls Tryd.prog 37 #[.agg #[.int .u32 (x.ec : Int), .string x.s7, .bool x.pl, .int .u64 (x.ea : Int)]] W fun e w' => ∃ ao cap n, e = .returned (.tuple #[.slice ao n cap, .int .i64 (E6 : Int)]) ∧ L6.length = n ∧ Row W w' ao cap L6) := fun W hb => by
    have o := HO.out.later hb
    have h := pErrorC x.ec x.s7 x.pl x.ea W o.hec o.hea o.h7 (HT.out.later hb)
    rw [hR6] at h
    exact h
  have HK7 : Hid (∀ W, Below w.heap.size w W → Calls Tryd.prog 29 #[.agg #[.int .u64 (x.off : Int), .slice x.a8 x.n8 x.c8]] W fun e w' => ∃ ao cap n, e = .returned (.tuple #[.slice ao n cap, .int .i64 (E7 : Int)]) ∧ L7.length = n ∧ Row W w' ao cap L7) := fun W hb => by
    have o := HO.out.later hb
    have h := pDataC x.off x.n8 x.a8 x.c8 x.m8 W o.hoff o.r8 o.l8 o.b8
    rw [hR7] at h
    exact h
  clear hR0 hR1 hR2 hR3 hR4 hR5 hR6 hR7
  have hxb := mkb1 w x.cells 48
  go_enter Tryd.func7, Tryd.ntmps7
  go_upto_region 1 with fail
  generalize w.alloc (Obj.cells x.cells 48) = W0 at *
  have HB0 : Hid (W0.heap[w.heap.size]? = some (.cells x.cells 48 (0, 0))) := hxb.a
  have HP0 : Hid (Pks w W0 (.slice none 0 0) []) := ⟨World.ownsRow_nil _ _ _ _, by simp, hxb.bel⟩
  clear hxb
  have q0 := blk_at HB0.out 0
  have q1 := blk_at HB0.out 1
  have q2 := blk_at HB0.out 2
  have q3 := blk_at HB0.out 3
  have q4 := blk_at HB0.out 4
  have q5 := blk_at HB0.out 5
  have q6 := blk_at HB0.out 6
  have q7 := blk_at HB0.out 7
  simp [Bod.cells] at q0 q1 q2 q3 q4 q5 q6 q7
  go_wp2_with fail
  clear q0 q1 q2 q3 q4 q5 q6 q7
  refine (HK0.out W0 HP0.out.bel).mono ?_
  rintro e V0 ⟨ao0, cap0, n0, rfl, hn0, hr0⟩
  have HRw0 : Hid (Row W0 V0 ao0 cap0 L0 ∧ L0.length = n0) := ⟨hr0, hn0⟩
  have HQ0 : Hid (Pks w V0 (.slice none 0 0) [] ∧ V0.heap[w.heap.size]? = some (.cells x.cells 48 (0, 0))) := ⟨HP0.out.later hr0.bel, box_later HB0.out hr0.bel⟩
  clear hn0 hr0 HK0
  go_wp2_with fail
  refine (HNum.out (E0 : Int) _).mono ?_
  rintro e Wn ⟨rfl, hw⟩
  rw [hw]; clear hw Wn
  have HA0 : Hid (Pks w (V0.alloc (.cells #[.slice ao0 n0 cap0, .int .i64 (E0 : Int)] 52)) (.slice none 0 0) []) := HQ0.out.1.later (below1 _ _)
  have HN0 : Hid (∀ j u, ([.slice ao0 n0 cap0, .int .i64 (E0 : Int)] : List Value)[j]? = some u → (V0.alloc (.cells #[.slice ao0 n0 cap0, .int .i64 (E0 : Int)] 52)).cell? ((⟨V0.heap.size, 0, none⟩ : Addr).add j) = some u) := fun j u hu => by rw [add_plain, Nat.zero_add, blk_at (heap_new V0 _)]; simpa using hu
  go_wp2_with (at_builtin; refine wpList_append_own _ rfl (.tmp 12) (.tmp 17) 49 rfl w.heap.size 52 i0 _ 2 32 Tryd.underlying49 hi hz0 hz1 hz2 rfl (by decide) (.slice none 0 0) 0 (List.flatMap Rp.cells []) rfl HA0.out.own ⟨V0.heap.size, 0, none⟩ 1 1 [.slice ao0 n0 cap0, .int .i64 (E0 : Int)] rfl rfl HN0.out (by simp [Value.oneCell']) (by unfold maxLen; decide) (by decide) HA0.out.bel.size ?_)
  intro v1 W1 ho hg _
  obtain ⟨va1, vc1, rfl⟩ := owns_form2 ho
  have HP1 : Hid (Pks w W1 (.slice va1 1 vc1) ([] ++ [⟨ao0, n0, cap0, E0, L0⟩])) := HP0.out.add HRw0.out.1 HRw0.out.2 (below1 _ _) ho hg
  have HB1 : Hid (W1.heap[w.heap.size]? = some (.cells x.cells 48 (0, 0))) := HA0.out.box hg (box_later HQ0.out.2 (below1 _ _)) (by decide)
  clear ho hg HA0 HN0 HQ0 HRw0 HP0 HB0
  obtain ⟨l1, hl1⟩ : ∃ l', ([] ++ [⟨ao0, n0, cap0, E0, L0⟩] : List Rp) = l' := ⟨_, rfl⟩
  rw [hl1] at HP1
  have HLn1 : Hid (l1.length = 1 ∧ l1.map (fun r => (r.L, r.E)) = [(L0, E0)]) := by
    rw [← hl1]
    exact ⟨rfl, rfl⟩
  clear hl1
  have q8 := blk_at HB1.out 8
  have q9 := blk_at HB1.out 9
  simp [Bod.cells] at q8 q9
  go_wp2_with fail
  clear q8 q9
  refine (HK1.out W1 HP1.out.bel).mono ?_
  rintro e V1 ⟨ao1, cap1, n1, rfl, hn1, hr1⟩
  have HRw1 : Hid (Row W1 V1 ao1 cap1 L1 ∧ L1.length = n1) := ⟨hr1, hn1⟩
  have HQ1 : Hid (Pks w V1 (.slice va1 1 vc1) l1 ∧ V1.heap[w.heap.size]? = some (.cells x.cells 48 (0, 0))) := ⟨HP1.out.later hr1.bel, box_later HB1.out hr1.bel⟩
  clear hn1 hr1 HK1
  go_wp2_with fail
  refine (HNum.out (E1 : Int) _).mono ?_
  rintro e Wn ⟨rfl, hw⟩
  rw [hw]; clear hw Wn
  have HA1 : Hid (Pks w (V1.alloc (.cells #[.slice ao1 n1 cap1, .int .i64 (E1 : Int)] 52)) (.slice va1 1 vc1) l1) := HQ1.out.1.later (below1 _ _)
  have HOw1 : Hid ((V1.alloc (.cells #[.slice ao1 n1 cap1, .int .i64 (E1 : Int)] 52)).ownsRow w.heap.size 52 2 (.slice va1 1 vc1) 1 (List.flatMap Rp.cells l1)) := by have h := HA1.out.own; rw [HLn1.out.1] at h; exact h
  have HN1 : Hid (∀ j u, ([.slice ao1 n1 cap1, .int .i64 (E1 : Int)] : List Value)[j]? = some u → (V1.alloc (.cells #[.slice ao1 n1 cap1, .int .i64 (E1 : Int)] 52)).cell? ((⟨V1.heap.size, 0, none⟩ : Addr).add j) = some u) := fun j u hu => by rw [add_plain, Nat.zero_add, blk_at (heap_new V1 _)]; simpa using hu
  go_wp2_with (at_builtin; refine wpList_append_own _ rfl (.tmp 25) (.tmp 30) 49 rfl w.heap.size 52 i0 _ 2 32 Tryd.underlying49 hi hz0 hz1 hz2 rfl (by decide) (.slice va1 1 vc1) 1 (List.flatMap Rp.cells l1) rfl HOw1.out ⟨V1.heap.size, 0, none⟩ 1 1 [.slice ao1 n1 cap1, .int .i64 (E1 : Int)] rfl rfl HN1.out (by simp [Value.oneCell']) (by unfold maxLen; decide) (by decide) HA1.out.bel.size ?_)
  intro v2 W2 ho hg _
  obtain ⟨va2, vc2, rfl⟩ := owns_form2 ho
  have HP2 : Hid (Pks w W2 (.slice va2 2 vc2) (l1 ++ [⟨ao1, n1, cap1, E1, L1⟩])) := HP1.out.add HRw1.out.1 HRw1.out.2 (below1 _ _) (by rw [HLn1.out.1]; exact ho) hg
  have HB2 : Hid (W2.heap[w.heap.size]? = some (.cells x.cells 48 (0, 0))) := HA1.out.box hg (box_later HQ1.out.2 (below1 _ _)) (by decide)
  clear ho hg HA1 HN1 HQ1 HRw1 HP1 HB1
  obtain ⟨l2, hl2⟩ : ∃ l', (l1 ++ [⟨ao1, n1, cap1, E1, L1⟩] : List Rp) = l' := ⟨_, rfl⟩
  rw [hl2] at HP2
  have HLn2 : Hid (l2.length = 2 ∧ l2.map (fun r => (r.L, r.E)) = [(L0, E0), (L1, E1)]) := by
    rw [← hl2]
    exact ⟨by rw [List.length_append, HLn1.out.1]; rfl, by rw [List.map_append, HLn1.out.2]; rfl⟩
  clear hl2
  have q10 := blk_at HB2.out 10
  have q11 := blk_at HB2.out 11
  simp [Bod.cells] at q10 q11
  go_wp2_with fail
  clear q10 q11
  refine (HK2.out W2 HP2.out.bel).mono ?_
  rintro e V2 ⟨ao2, cap2, n2, rfl, hn2, hr2⟩
  have HRw2 : Hid (Row W2 V2 ao2 cap2 L2 ∧ L2.length = n2) := ⟨hr2, hn2⟩
  have HQ2 : Hid (Pks w V2 (.slice va2 2 vc2) l2 ∧ V2.heap[w.heap.size]? = some (.cells x.cells 48 (0, 0))) := ⟨HP2.out.later hr2.bel, box_later HB2.out hr2.bel⟩
  clear hn2 hr2 HK2
  go_wp2_with fail
  refine (HNum.out (E2 : Int) _).mono ?_
  rintro e Wn ⟨rfl, hw⟩
  rw [hw]; clear hw Wn
  have HA2 : Hid (Pks w (V2.alloc (.cells #[.slice ao2 n2 cap2, .int .i64 (E2 : Int)] 52)) (.slice va2 2 vc2) l2) := HQ2.out.1.later (below1 _ _)
  have HOw2 : Hid ((V2.alloc (.cells #[.slice ao2 n2 cap2, .int .i64 (E2 : Int)] 52)).ownsRow w.heap.size 52 2 (.slice va2 2 vc2) 2 (List.flatMap Rp.cells l2)) := by have h := HA2.out.own; rw [HLn2.out.1] at h; exact h
  have HN2 : Hid (∀ j u, ([.slice ao2 n2 cap2, .int .i64 (E2 : Int)] : List Value)[j]? = some u → (V2.alloc (.cells #[.slice ao2 n2 cap2, .int .i64 (E2 : Int)] 52)).cell? ((⟨V2.heap.size, 0, none⟩ : Addr).add j) = some u) := fun j u hu => by rw [add_plain, Nat.zero_add, blk_at (heap_new V2 _)]; simpa using hu
  go_wp2_with (at_builtin; refine wpList_append_own _ rfl (.tmp 38) (.tmp 43) 49 rfl w.heap.size 52 i0 _ 2 32 Tryd.underlying49 hi hz0 hz1 hz2 rfl (by decide) (.slice va2 2 vc2) 2 (List.flatMap Rp.cells l2) rfl HOw2.out ⟨V2.heap.size, 0, none⟩ 1 1 [.slice ao2 n2 cap2, .int .i64 (E2 : Int)] rfl rfl HN2.out (by simp [Value.oneCell']) (by unfold maxLen; decide) (by decide) HA2.out.bel.size ?_)
  intro v3 W3 ho hg _
  obtain ⟨va3, vc3, rfl⟩ := owns_form2 ho
  have HP3 : Hid (Pks w W3 (.slice va3 3 vc3) (l2 ++ [⟨ao2, n2, cap2, E2, L2⟩])) := HP2.out.add HRw2.out.1 HRw2.out.2 (below1 _ _) (by rw [HLn2.out.1]; exact ho) hg
  have HB3 : Hid (W3.heap[w.heap.size]? = some (.cells x.cells 48 (0, 0))) := HA2.out.box hg (box_later HQ2.out.2 (below1 _ _)) (by decide)
  clear ho hg HA2 HN2 HQ2 HRw2 HP2 HB2
  obtain ⟨l3, hl3⟩ : ∃ l', (l2 ++ [⟨ao2, n2, cap2, E2, L2⟩] : List Rp) = l' := ⟨_, rfl⟩
  rw [hl3] at HP3
  have HLn3 : Hid (l3.length = 3 ∧ l3.map (fun r => (r.L, r.E)) = [(L0, E0), (L1, E1), (L2, E2)]) := by
    rw [← hl3]
    exact ⟨by rw [List.length_append, HLn2.out.1]; rfl, by rw [List.map_append, HLn2.out.2]; rfl⟩
  clear hl3
  have q12 := blk_at HB3.out 12
  have q13 := blk_at HB3.out 13
  simp [Bod.cells] at q12 q13
  go_wp2_with fail
  clear q12 q13
  refine (HK3.out W3 HP3.out.bel).mono ?_
  rintro e V3 ⟨ao3, cap3, n3, rfl, hn3, hr3⟩
  have HRw3 : Hid (Row W3 V3 ao3 cap3 L3 ∧ L3.length = n3) := ⟨hr3, hn3⟩
  have HQ3 : Hid (Pks w V3 (.slice va3 3 vc3) l3 ∧ V3.heap[w.heap.size]? = some (.cells x.cells 48 (0, 0))) := ⟨HP3.out.later hr3.bel, box_later HB3.out hr3.bel⟩
  clear hn3 hr3 HK3
  go_wp2_with fail
  refine (HNum.out (E3 : Int) _).mono ?_
  rintro e Wn ⟨rfl, hw⟩
  rw [hw]; clear hw Wn
  have HA3 : Hid (Pks w (V3.alloc (.cells #[.slice ao3 n3 cap3, .int .i64 (E3 : Int)] 52)) (.slice va3 3 vc3) l3) := HQ3.out.1.later (below1 _ _)
  have HOw3 : Hid ((V3.alloc (.cells #[.slice ao3 n3 cap3, .int .i64 (E3 : Int)] 52)).ownsRow w.heap.size 52 2 (.slice va3 3 vc3) 3 (List.flatMap Rp.cells l3)) := by have h := HA3.out.own; rw [HLn3.out.1] at h; exact h
  have HN3 : Hid (∀ j u, ([.slice ao3 n3 cap3, .int .i64 (E3 : Int)] : List Value)[j]? = some u → (V3.alloc (.cells #[.slice ao3 n3 cap3, .int .i64 (E3 : Int)] 52)).cell? ((⟨V3.heap.size, 0, none⟩ : Addr).add j) = some u) := fun j u hu => by rw [add_plain, Nat.zero_add, blk_at (heap_new V3 _)]; simpa using hu
  go_wp2_with (at_builtin; refine wpList_append_own _ rfl (.tmp 51) (.tmp 56) 49 rfl w.heap.size 52 i0 _ 2 32 Tryd.underlying49 hi hz0 hz1 hz2 rfl (by decide) (.slice va3 3 vc3) 3 (List.flatMap Rp.cells l3) rfl HOw3.out ⟨V3.heap.size, 0, none⟩ 1 1 [.slice ao3 n3 cap3, .int .i64 (E3 : Int)] rfl rfl HN3.out (by simp [Value.oneCell']) (by unfold maxLen; decide) (by decide) HA3.out.bel.size ?_)
  intro v4 W4 ho hg _
  obtain ⟨va4, vc4, rfl⟩ := owns_form2 ho
  have HP4 : Hid (Pks w W4 (.slice va4 4 vc4) (l3 ++ [⟨ao3, n3, cap3, E3, L3⟩])) := HP3.out.add HRw3.out.1 HRw3.out.2 (below1 _ _) (by rw [HLn3.out.1]; exact ho) hg
  have HB4 : Hid (W4.heap[w.heap.size]? = some (.cells x.cells 48 (0, 0))) := HA3.out.box hg (box_later HQ3.out.2 (below1 _ _)) (by decide)
  clear ho hg HA3 HN3 HQ3 HRw3 HP3 HB3
  obtain ⟨l4, hl4⟩ : ∃ l', (l3 ++ [⟨ao3, n3, cap3, E3, L3⟩] : List Rp) = l' := ⟨_, rfl⟩
  rw [hl4] at HP4
  have HLn4 : Hid (l4.length = 4 ∧ l4.map (fun r => (r.L, r.E)) = [(L0, E0), (L1, E1), (L2, E2), (L3, E3)]) := by
    rw [← hl4]
    exact ⟨by rw [List.length_append, HLn3.out.1]; rfl, by rw [List.map_append, HLn3.out.2]; rfl⟩
  clear hl4
  have q14 := blk_at HB4.out 14
  have q15 := blk_at HB4.out 15
  simp [Bod.cells] at q14 q15
  go_wp2_with fail
  clear q14 q15
  refine (HK4.out W4 HP4.out.bel).mono ?_
  rintro e V4 ⟨ao4, cap4, n4, rfl, hn4, hr4⟩
  have HRw4 : Hid (Row W4 V4 ao4 cap4 L4 ∧ L4.length = n4) := ⟨hr4, hn4⟩
  have HQ4 : Hid (Pks w V4 (.slice va4 4 vc4) l4 ∧ V4.heap[w.heap.size]? = some (.cells x.cells 48 (0, 0))) := ⟨HP4.out.later hr4.bel, box_later HB4.out hr4.bel⟩
  clear hn4 hr4 HK4
  go_wp2_with fail
  refine (HNum.out (E4 : Int) _).mono ?_
  rintro e Wn ⟨rfl, hw⟩
  rw [hw]; clear hw Wn
  have HA4 : Hid (Pks w (V4.alloc (.cells #[.slice ao4 n4 cap4, .int .i64 (E4 : Int)] 52)) (.slice va4 4 vc4) l4) := HQ4.out.1.later (below1 _ _)
  have HOw4 : Hid ((V4.alloc (.cells #[.slice ao4 n4 cap4, .int .i64 (E4 : Int)] 52)).ownsRow w.heap.size 52 2 (.slice va4 4 vc4) 4 (List.flatMap Rp.cells l4)) := by have h := HA4.out.own; rw [HLn4.out.1] at h; exact h
  have HN4 : Hid (∀ j u, ([.slice ao4 n4 cap4, .int .i64 (E4 : Int)] : List Value)[j]? = some u → (V4.alloc (.cells #[.slice ao4 n4 cap4, .int .i64 (E4 : Int)] 52)).cell? ((⟨V4.heap.size, 0, none⟩ : Addr).add j) = some u) := fun j u hu => by rw [add_plain, Nat.zero_add, blk_at (heap_new V4 _)]; simpa using hu
  go_wp2_with (at_builtin; refine wpList_append_own _ rfl (.tmp 64) (.tmp 69) 49 rfl w.heap.size 52 i0 _ 2 32 Tryd.underlying49 hi hz0 hz1 hz2 rfl (by decide) (.slice va4 4 vc4) 4 (List.flatMap Rp.cells l4) rfl HOw4.out ⟨V4.heap.size, 0, none⟩ 1 1 [.slice ao4 n4 cap4, .int .i64 (E4 : Int)] rfl rfl HN4.out (by simp [Value.oneCell']) (by unfold maxLen; decide) (by decide) HA4.out.bel.size ?_)
  intro v5 W5 ho hg _
  obtain ⟨va5, vc5, rfl⟩ := owns_form2 ho
  have HP5 : Hid (Pks w W5 (.slice va5 5 vc5) (l4 ++ [⟨ao4, n4, cap4, E4, L4⟩])) := HP4.out.add HRw4.out.1 HRw4.out.2 (below1 _ _) (by rw [HLn4.out.1]; exact ho) hg
  have HB5 : Hid (W5.heap[w.heap.size]? = some (.cells x.cells 48 (0, 0))) := HA4.out.box hg (box_later HQ4.out.2 (below1 _ _)) (by decide)
  clear ho hg HA4 HN4 HQ4 HRw4 HP4 HB4
  obtain ⟨l5, hl5⟩ : ∃ l', (l4 ++ [⟨ao4, n4, cap4, E4, L4⟩] : List Rp) = l' := ⟨_, rfl⟩
  rw [hl5] at HP5
  have HLn5 : Hid (l5.length = 5 ∧ l5.map (fun r => (r.L, r.E)) = [(L0, E0), (L1, E1), (L2, E2), (L3, E3), (L4, E4)]) := by
    rw [← hl5]
    exact ⟨by rw [List.length_append, HLn4.out.1]; rfl, by rw [List.map_append, HLn4.out.2]; rfl⟩
  clear hl5
  have q16 := blk_at HB5.out 16
  have q17 := blk_at HB5.out 17
  have q18 := blk_at HB5.out 18
  simp [Bod.cells] at q16 q17 q18
  go_wp2_with fail
  clear q16 q17 q18
  refine (HK5.out W5 HP5.out.bel).mono ?_
  rintro e V5 ⟨ao5, cap5, n5, rfl, hn5, hr5⟩
  have HRw5 : Hid (Row W5 V5 ao5 cap5 L5 ∧ L5.length = n5) := ⟨hr5, hn5⟩
  have HQ5 : Hid (Pks w V5 (.slice va5 5 vc5) l5 ∧ V5.heap[w.heap.size]? = some (.cells x.cells 48 (0, 0))) := ⟨HP5.out.later hr5.bel, box_later HB5.out hr5.bel⟩
  clear hn5 hr5 HK5
  go_wp2_with fail
  refine (HNum.out (E5 : Int) _).mono ?_
  rintro e Wn ⟨rfl, hw⟩
  rw [hw]; clear hw Wn
  have HA5 : Hid (Pks w (V5.alloc (.cells #[.slice ao5 n5 cap5, .int .i64 (E5 : Int)] 52)) (.slice va5 5 vc5) l5) := HQ5.out.1.later (below1 _ _)
  have HOw5 : Hid ((V5.alloc (.cells #[.slice ao5 n5 cap5, .int .i64 (E5 : Int)] 52)).ownsRow w.heap.size 52 2 (.slice va5 5 vc5) 5 (List.flatMap Rp.cells l5)) := by have h := HA5.out.own; rw [HLn5.out.1] at h; exact h
  have HN5 : Hid (∀ j u, ([.slice ao5 n5 cap5, .int .i64 (E5 : Int)] : List Value)[j]? = some u → (V5.alloc (.cells #[.slice ao5 n5 cap5, .int .i64 (E5 : Int)] 52)).cell? ((⟨V5.heap.size, 0, none⟩ : Addr).add j) = some u) := fun j u hu => by rw [add_plain, Nat.zero_add, blk_at (heap_new V5 _)]; simpa using hu
  go_wp2_with (at_builtin; refine wpList_append_own _ rfl (.tmp 79) (.tmp 84) 49 rfl w.heap.size 52 i0 _ 2 32 Tryd.underlying49 hi hz0 hz1 hz2 rfl (by decide) (.slice va5 5 vc5) 5 (List.flatMap Rp.cells l5) rfl HOw5.out ⟨V5.heap.size, 0, none⟩ 1 1 [.slice ao5 n5 cap5, .int .i64 (E5 : Int)] rfl rfl HN5.out (by simp [Value.oneCell']) (by unfold maxLen; decide) (by decide) HA5.out.bel.size ?_)
  intro v6 W6 ho hg _
  obtain ⟨va6, vc6, rfl⟩ := owns_form2 ho
  have HP6 : Hid (Pks w W6 (.slice va6 6 vc6) (l5 ++ [⟨ao5, n5, cap5, E5, L5⟩])) := HP5.out.add HRw5.out.1 HRw5.out.2 (below1 _ _) (by rw [HLn5.out.1]; exact ho) hg
  have HB6 : Hid (W6.heap[w.heap.size]? = some (.cells x.cells 48 (0, 0))) := HA5.out.box hg (box_later HQ5.out.2 (below1 _ _)) (by decide)
  clear ho hg HA5 HN5 HQ5 HRw5 HP5 HB5
  obtain ⟨l6, hl6⟩ : ∃ l', (l5 ++ [⟨ao5, n5, cap5, E5, L5⟩] : List Rp) = l' := ⟨_, rfl⟩
  rw [hl6] at HP6
  have HLn6 : Hid (l6.length = 6 ∧ l6.map (fun r => (r.L, r.E)) = [(L0, E0), (L1, E1), (L2, E2), (L3, E3), (L4, E4), (L5, E5)]) := by
    rw [← hl6]
    exact ⟨by rw [List.length_append, HLn5.out.1]; rfl, by rw [List.map_append, HLn5.out.2]; rfl⟩
  clear hl6
  have q19 := blk_at HB6.out 19
  have q20 := blk_at HB6.out 20
  have q21 := blk_at HB6.out 21
  have q22 := blk_at HB6.out 22
  simp [Bod.cells] at q19 q20 q21 q22
  go_wp2_with fail
  clear q19 q20 q21 q22
  refine (HK6.out W6 HP6.out.bel).mono ?_
  rintro e V6 ⟨ao6, cap6, n6, rfl, hn6, hr6⟩
  have HRw6 : Hid (Row W6 V6 ao6 cap6 L6 ∧ L6.length = n6) := ⟨hr6, hn6⟩
  have HQ6 : Hid (Pks w V6 (.slice va6 6 vc6) l6 ∧ V6.heap[w.heap.size]? = some (.cells x.cells 48 (0, 0))) := ⟨HP6.out.later hr6.bel, box_later HB6.out hr6.bel⟩
  clear hn6 hr6 HK6
  go_wp2_with fail
  refine (HNum.out (E6 : Int) _).mono ?_
  rintro e Wn ⟨rfl, hw⟩
  rw [hw]; clear hw Wn
  have HA6 : Hid (Pks w (V6.alloc (.cells #[.slice ao6 n6 cap6, .int .i64 (E6 : Int)] 52)) (.slice va6 6 vc6) l6) := HQ6.out.1.later (below1 _ _)
  have HOw6 : Hid ((V6.alloc (.cells #[.slice ao6 n6 cap6, .int .i64 (E6 : Int)] 52)).ownsRow w.heap.size 52 2 (.slice va6 6 vc6) 6 (List.flatMap Rp.cells l6)) := by have h := HA6.out.own; rw [HLn6.out.1] at h; exact h
  have HN6 : Hid (∀ j u, ([.slice ao6 n6 cap6, .int .i64 (E6 : Int)] : List Value)[j]? = some u → (V6.alloc (.cells #[.slice ao6 n6 cap6, .int .i64 (E6 : Int)] 52)).cell? ((⟨V6.heap.size, 0, none⟩ : Addr).add j) = some u) := fun j u hu => by rw [add_plain, Nat.zero_add, blk_at (heap_new V6 _)]; simpa using hu
  go_wp2_with (at_builtin; refine wpList_append_own _ rfl (.tmp 92) (.tmp 97) 49 rfl w.heap.size 52 i0 _ 2 32 Tryd.underlying49 hi hz0 hz1 hz2 rfl (by decide) (.slice va6 6 vc6) 6 (List.flatMap Rp.cells l6) rfl HOw6.out ⟨V6.heap.size, 0, none⟩ 1 1 [.slice ao6 n6 cap6, .int .i64 (E6 : Int)] rfl rfl HN6.out (by simp [Value.oneCell']) (by unfold maxLen; decide) (by decide) HA6.out.bel.size ?_)
  intro v7 W7 ho hg _
  obtain ⟨va7, vc7, rfl⟩ := owns_form2 ho
  have HP7 : Hid (Pks w W7 (.slice va7 7 vc7) (l6 ++ [⟨ao6, n6, cap6, E6, L6⟩])) := HP6.out.add HRw6.out.1 HRw6.out.2 (below1 _ _) (by rw [HLn6.out.1]; exact ho) hg
  have HB7 : Hid (W7.heap[w.heap.size]? = some (.cells x.cells 48 (0, 0))) := HA6.out.box hg (box_later HQ6.out.2 (below1 _ _)) (by decide)
  clear ho hg HA6 HN6 HQ6 HRw6 HP6 HB6
  obtain ⟨l7, hl7⟩ : ∃ l', (l6 ++ [⟨ao6, n6, cap6, E6, L6⟩] : List Rp) = l' := ⟨_, rfl⟩
  rw [hl7] at HP7
  have HLn7 : Hid (l7.length = 7 ∧ l7.map (fun r => (r.L, r.E)) = [(L0, E0), (L1, E1), (L2, E2), (L3, E3), (L4, E4), (L5, E5), (L6, E6)]) := by
    rw [← hl7]
    exact ⟨by rw [List.length_append, HLn6.out.1]; rfl, by rw [List.map_append, HLn6.out.2]; rfl⟩
  clear hl7
  have q23 := blk_at HB7.out 23
  have q24 := blk_at HB7.out 24
  simp [Bod.cells] at q23 q24
  go_wp2_with fail
  clear q23 q24
  refine (HK7.out W7 HP7.out.bel).mono ?_
  rintro e V7 ⟨ao7, cap7, n7, rfl, hn7, hr7⟩
  have HRw7 : Hid (Row W7 V7 ao7 cap7 L7 ∧ L7.length = n7) := ⟨hr7, hn7⟩
  have HQ7 : Hid (Pks w V7 (.slice va7 7 vc7) l7 ∧ V7.heap[w.heap.size]? = some (.cells x.cells 48 (0, 0))) := ⟨HP7.out.later hr7.bel, box_later HB7.out hr7.bel⟩
  clear hn7 hr7 HK7
  go_wp2_with fail
  refine (HNum.out (E7 : Int) _).mono ?_
  rintro e Wn ⟨rfl, hw⟩
  rw [hw]; clear hw Wn
  have HA7 : Hid (Pks w (V7.alloc (.cells #[.slice ao7 n7 cap7, .int .i64 (E7 : Int)] 52)) (.slice va7 7 vc7) l7) := HQ7.out.1.later (below1 _ _)
  have HOw7 : Hid ((V7.alloc (.cells #[.slice ao7 n7 cap7, .int .i64 (E7 : Int)] 52)).ownsRow w.heap.size 52 2 (.slice va7 7 vc7) 7 (List.flatMap Rp.cells l7)) := by have h := HA7.out.own; rw [HLn7.out.1] at h; exact h
  have HN7 : Hid (∀ j u, ([.slice ao7 n7 cap7, .int .i64 (E7 : Int)] : List Value)[j]? = some u → (V7.alloc (.cells #[.slice ao7 n7 cap7, .int .i64 (E7 : Int)] 52)).cell? ((⟨V7.heap.size, 0, none⟩ : Addr).add j) = some u) := fun j u hu => by rw [add_plain, Nat.zero_add, blk_at (heap_new V7 _)]; simpa using hu
  go_wp2_with (at_builtin; refine wpList_append_own _ rfl (.tmp 105) (.tmp 110) 49 rfl w.heap.size 52 i0 _ 2 32 Tryd.underlying49 hi hz0 hz1 hz2 rfl (by decide) (.slice va7 7 vc7) 7 (List.flatMap Rp.cells l7) rfl HOw7.out ⟨V7.heap.size, 0, none⟩ 1 1 [.slice ao7 n7 cap7, .int .i64 (E7 : Int)] rfl rfl HN7.out (by simp [Value.oneCell']) (by unfold maxLen; decide) (by decide) HA7.out.bel.size ?_)
  intro v8 W8 ho hg _
  obtain ⟨va8, vc8, rfl⟩ := owns_form2 ho
  have HP8 : Hid (Pks w W8 (.slice va8 8 vc8) (l7 ++ [⟨ao7, n7, cap7, E7, L7⟩])) := HP7.out.add HRw7.out.1 HRw7.out.2 (below1 _ _) (by rw [HLn7.out.1]; exact ho) hg
  have HB8 : Hid (W8.heap[w.heap.size]? = some (.cells x.cells 48 (0, 0))) := HA7.out.box hg (box_later HQ7.out.2 (below1 _ _)) (by decide)
  clear ho hg HA7 HN7 HQ7 HRw7 HP7 HB7
  obtain ⟨l8, hl8⟩ : ∃ l', (l7 ++ [⟨ao7, n7, cap7, E7, L7⟩] : List Rp) = l' := ⟨_, rfl⟩
  rw [hl8] at HP8
  have HLn8 : Hid (l8.length = 8 ∧ l8.map (fun r => (r.L, r.E)) = [(L0, E0), (L1, E1), (L2, E2), (L3, E3), (L4, E4), (L5, E5), (L6, E6), (L7, E7)]) := by
    rw [← hl8]
    exact ⟨by rw [List.length_append, HLn7.out.1]; rfl, by rw [List.map_append, HLn7.out.2]; rfl⟩
  clear hl8
  have q25 := blk_at HB8.out 25
  have q26 := blk_at HB8.out 26
  simp [Bod.cells] at q25 q26
  go_wp2_with fail
  clear q25 q26
  refine (packHole x.ho x.ln W8 HO.out.hho HO.out.hln).mono ?_
  rintro e V8 ⟨ao8, cap8, n8, rfl, hn8, hr8⟩
  have HRw8 : Hid (Row W8 V8 ao8 cap8 (hoL x.ho x.ln) ∧ (hoL x.ho x.ln).length = n8) := ⟨hr8, hn8⟩
  have HQ8 : Hid (Pks w V8 (.slice va8 8 vc8) l8) := HP8.out.later hr8.bel
  clear hn8 hr8
  have HA8 : Hid (Pks w (V8.alloc (.cells #[.slice ao8 n8 cap8, .int .i64 0] 52)) (.slice va8 8 vc8) l8) := HQ8.out.later (below1 _ _)
  have HOw8 : Hid ((V8.alloc (.cells #[.slice ao8 n8 cap8, .int .i64 0] 52)).ownsRow w.heap.size 52 2 (.slice va8 8 vc8) 8 (List.flatMap Rp.cells l8)) := by have h := HA8.out.own; rw [HLn8.out.1] at h; exact h
  have HN8 : Hid (∀ j u, ([.slice ao8 n8 cap8, .int .i64 0] : List Value)[j]? = some u → (V8.alloc (.cells #[.slice ao8 n8 cap8, .int .i64 0] 52)).cell? ((⟨V8.heap.size, 0, none⟩ : Addr).add j) = some u) := fun j u hu => by rw [add_plain, Nat.zero_add, blk_at (heap_new V8 _)]; simpa using hu
  go_wp2_with (at_builtin; refine wpList_append_own _ rfl (.tmp 112) (.tmp 117) 49 rfl w.heap.size 52 i0 _ 2 32 Tryd.underlying49 hi hz0 hz1 hz2 rfl (by decide) (.slice va8 8 vc8) 8 (List.flatMap Rp.cells l8) rfl HOw8.out ⟨V8.heap.size, 0, none⟩ 1 1 [.slice ao8 n8 cap8, .int .i64 0] rfl rfl HN8.out (by simp [Value.oneCell']) (by unfold maxLen; decide) (by decide) HA8.out.bel.size ?_)
  intro v9 W9 ho hg _
  have HP9 : Hid (Pks w W9 v9 (l8 ++ [⟨ao8, n8, cap8, 0, hoL x.ho x.ln⟩])) := HP8.out.add HRw8.out.1 HRw8.out.2 (below1 _ _) (by rw [HLn8.out.1]; exact ho) hg
  have HE9 : Hid ((l8 ++ [(⟨ao8, n8, cap8, 0, hoL x.ho x.ln⟩ : Rp)]).map (fun r => (r.L, r.E)) = x.res) := by
    show _ = _
    rw [HRes.out, List.map_append, HLn8.out.2]; rfl
  clear ho hg HA8 HN8 HQ8 HRw8 HP8 HB8
  go_wp2
  go_ret
  exact ⟨_, _, rfl, HP9.out, HE9.out⟩
end Go.Proofs.YtjikibhhhchgeaaDoor
