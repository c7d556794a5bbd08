import Derived.Test.YtpkobgnbjmefnaaDoorReadC
import Derived.Test.YtpkobgnbjmefnaaDoorReadD
import Derived.Test.YtpkobgnbjmefnaaDoorReadE
import Derived.Test.YtpkobgnbjmefnaaDoorReadF
import Derived.Test.YtpkobgnbjmefnaaDoorHeadsW
namespace Go.Proofs.YtpkobgnbjmefnaaDoor
open Go.RowKit
set_option linter.unusedVariables false
set_option maxRecDepth 100000

theorem reads_any (w0 w : World) (r : Nat) (ao1 : Option Addr) (cap1 p : Nat) (ao2 : Option Addr) (cap2 : Nat) (l : List Nat) (a : Nat) (kind n : Int) (h : Both w0 w r ao1 cap1 p ao2 cap2 l a a) (hT : Tabs w0) (hl : l.length ≤ 1048576) (hn63 : n ≤ 9223372036854775807) :
    Calls Tryd.prog 18 #[.pointer (some ⟨r, 0, none⟩), .pointer (some ⟨p, 0, none⟩), .agg #[.int .i64 kind, .int .i64 n]] w fun e w' => e = .returned (.bool true) ∧ ∃ a', Both w0 w' r ao1 cap1 p ao2 cap2 l a' a' := by
  by_cases h1 : kind = 1
  · exact reads_1 w0 w r ao1 cap1 p ao2 cap2 l a kind n h h1
  by_cases h2 : kind = 2
  · exact reads_2 w0 w r ao1 cap1 p ao2 cap2 l a kind n h h2
  by_cases h3 : kind = 3
  · exact reads_3 w0 w r ao1 cap1 p ao2 cap2 l a kind n h h3
  by_cases h4 : kind = 4
  · exact reads_4 w0 w r ao1 cap1 p ao2 cap2 l a kind n h h4
  by_cases h5 : kind = 5
  · exact reads_5 w0 w r ao1 cap1 p ao2 cap2 l a kind n h h5 hl hn63
  by_cases h6 : kind = 6
  · exact reads_6 w0 w r ao1 cap1 p ao2 cap2 l a kind n h hT h6 hn63
  by_cases h7 : kind = 7
  · exact reads_7 w0 w r ao1 cap1 p ao2 cap2 l a kind n h h7
  by_cases h8 : kind = 8
  · exact reads_8 w0 w r ao1 cap1 p ao2 cap2 l a kind n h h8
  exact reads_0 w0 w r ao1 cap1 p ao2 cap2 l a kind n h h1 h2 h3 h4 h5 h6 h7 h8

/-- while what was lent is turned round -/
structure LInv (w wr : World) (g n r : Nat) (ao1 : Option Addr) (cap1 : Nat) (bs : List Nat) : Prop where
  blk : ∃ D : List Nat, D.length = n + 70 ∧ (∀ x ∈ D, x < 256) ∧ wr.heap[g]? = some (.cells (D.map bv).toArray 5 (0, 0))
  rok : ROk wr w.heap.size r ao1 cap1 bs 0
  bel : Below w.heap.size w wr
  gr : g < r
  gv : ∀ x, (Value.slice ao1 bs.length cap1).ownBlock = some x → g < x
  new : w.heap.size ≤ g
theorem LInv.cell {w wr : World} {g n r : Nat} {ao1 : Option Addr} {cap1 : Nat} {bs : List Nat} (h : LInv w wr g n r ao1 cap1 bs) (k : Nat) (hk : k < n) :
    ∃ x : Nat, x < 256 ∧ wr.cell? ⟨g, k, none⟩ = some (.int .u8 (x : Int)) ∧ wr.frozen? ⟨g, k, none⟩ = false ∧ ∀ y : Nat, y < 256 → LInv w (wr.setCell ⟨g, k, none⟩ (.int .u8 (y : Int))) g n r ao1 cap1 bs := by
  obtain ⟨D, hD, hlt, hb⟩ := h.blk
  have hkD : k < D.length := by omega
  refine ⟨D[k], hlt _ (List.getElem_mem hkD), ?_, blk_free hb k, fun y hy => ⟨⟨D.set k y, by simp [hD], ?_, ?_⟩, ?_, ?_, h.gr, h.gv, h.new⟩⟩
  · rw [blk_at hb]; simp [hkD, bv]
  · intro x hx
    rcases List.mem_or_eq_of_mem_set hx with h' | h'
    · exact hlt x h'
    · omega
  · have := heap_setCell_same wr g k (D.map bv).toArray 5 (.int .u8 (y : Int)) hb
    rw [this]
    congr 2
    rw [List.map_set]
    simp [bv]
  · exact h.rok.later (S := fun x => x = g) ⟨rfl, rfl, rfl, by simp, fun b hb' hS => Below.heap_setCell _ _ _ _ (fun e => hS e)⟩ (fun e => by have := h.gr; omega) (fun x hx e => by have := h.gv x hx; omega)
  · exact h.bel.trans (KeptIn.below (S := fun x => x = g) ⟨rfl, rfl, rfl, by simp, fun b hb' hS => Below.heap_setCell _ _ _ _ (fun e => hS e)⟩ h.bel.size (fun x hx e => by have := h.new; omega))

theorem not_u8 (x : Nat) (hx : x < 256) : bits .xor .u8 (if IntKind.u8.signed = true then -1 else IntKind.u8.max) (x : Int) = ((255 ^^^ x : Nat) : Int) := u8_xor_nat 255 x (by decide) hx

set_option maxHeartbeats 4000000 in
theorem readsLaw_any (ao : Option Addr) (cap n : Nat) (bs : List Nat) (sao : Option Addr) (m scap : Nat) (X : Nat → Int × Int) (w : World) (h : BRow w ao cap bs) (HN : Hid (bs.length = n)) (hn : n ≤ 1048576) (hm : m ≤ 1048576) (hT : Tabs w)
    (HS : Hid (∀ i, i < m → ∃ sb so, sao = some ⟨sb, so, none⟩ ∧ ∀ i, i < m → w.cell? ⟨sb, so + i * 2, none⟩ = some (.int .i64 (X i).1) ∧ w.cell? ⟨sb, so + i * 2 + 1, none⟩ = some (.int .i64 (X i).2) ∧ (X i).2 ≤ 9223372036854775807)) :
    Calls Tryd.prog 4 #[.slice ao n cap, .slice sao m scap] w fun e w' => e = .returned (.bool true) ∧ Below w.heap.size w w' := by
  have HR : Hid (BRow w ao cap bs) := h
  have HT : Hid (Tabs w) := hT
  clear h hT
  have HLd : Hid (Calls Tryd.prog 14 #[.slice ao n cap] w fun e w' => ∃ g, e = .returned (.slice (some ⟨g, 0, none⟩) n (n + 70)) ∧ Lent w w' g bs) := lend_any ao cap n bs w HR.out HN (by omega)
  have HNr : Hid (∀ w1 g, Lent w w1 g bs → Calls Tryd.prog 15 #[.slice (some ⟨g, 0, none⟩) n (n + 70)] w1 fun e w' => ∃ r ao' cap', e = .returned (.pointer (some ⟨r, 0, none⟩)) ∧ ROk w' w1.heap.size r ao' cap' bs 0 ∧ Below w1.heap.size w1 w') := fun w1 g hl =>
    newReader_any _ _ n bs w1 (lent_brow hl.blk HR.out.lt HR.out.len _) HN
  have HKp : Hid (∀ w3 g, Below w.heap.size w w3 → w3.heap[g]? = some (.cells ((bs ++ marksTo 70).map bv).toArray 5 (0, 0)) → Calls Tryd.prog 16 #[.slice (some ⟨g, 0, none⟩) n (n + 70), .slice ao n cap] w3 fun e w' => e = .returned (.bool true) ∧ ∃ q, w' = w3.drewN q) := fun w3 g hb hg =>
    kept_true g ao cap n bs w3 hg (HR.out.later hb) HN (by omega)
  have HCp : Hid (∀ W, Below w.heap.size w W → Calls Tryd.prog 17 #[.slice ao n cap] W fun e w' => ∃ ao' cap', e = .returned (.slice ao' n cap') ∧ w'.ownsRow W.heap.size 5 1 (.slice ao' n cap') n (bs.map bv) ∧ Below W.heap.size W w') := fun W hb => by
    have := copy_any ao cap bs W (HR.out.later hb)
    rw [HN.out] at this; exact this
  go_enter Tryd.func4, Tryd.ntmps4
  go_wp2_with fail
  refine HLd.out.mono ?_
  rintro e w1 ⟨g, rfl, hlent⟩
  have HLt : Hid (Lent w w1 g bs) := hlent
  clear hlent
  go_wp2_with fail
  refine (HNr.out w1 g HLt.out).mono ?_
  rintro e w2 ⟨r, ao1, cap1, rfl, hr2, hb2⟩
  have HB2 : Hid (Below w.heap.size w w2) := HLt.out.bel.trans (hb2.mono HLt.out.bel.size)
  have HG2 : Hid (w2.heap[g]? = some (.cells ((bs ++ marksTo 70).map bv).toArray 5 (0, 0))) := by
    show w2.heap[g]? = _
    rw [hb2.block g (block_lt HLt.out.blk)]; exact HLt.out.blk
  have HR2 : Hid (ROk w2 w1.heap.size r ao1 cap1 bs 0) := hr2
  have HZ : Hid (w.heap.size ≤ w1.heap.size ∧ g < w1.heap.size) := ⟨HLt.out.bel.size, block_lt HLt.out.blk⟩
  clear hr2 hb2
  go_wp2_with fail
  refine (HKp.out w2 g HB2.out HG2.out).mono ?_
  rintro e w3 ⟨rfl, q, hw⟩
  rw [hw]; clear hw
  have HI0 : Hid (LInv w (w2.drewN q) g n r ao1 cap1 bs) := by
    have hr := HR2.out
    refine ⟨⟨bs ++ marksTo 70, by simp [marksTo_length]; exact HN.out, ?_, HG2.out⟩, ⟨hr.blk, owns_mono (owns_same hr.own (fun _ _ => rfl)) HZ.out.1, hr.lt, hr.len, hr.le, Nat.le_trans HZ.out.1 hr.hr⟩, HB2.out.trans ((below_drew0 w2 q).mono HB2.out.size), Nat.lt_of_lt_of_le HZ.out.2 hr.hr, fun x hx => Nat.lt_of_lt_of_le HZ.out.2 (owns_lt hr.own x hx).2, HLt.out.new⟩
    intro x hx
    rcases List.mem_append.1 hx with h' | h'
    · exact hr.lt x h'
    · obtain ⟨j, hj, rfl⟩ := List.mem_map.1 h'
      have := List.mem_range.1 hj
      omega
  go_wp2
  go_loopw [7] (fun i wr => ∃ k : Nat, k ≤ n ∧ i = .int .i64 k ∧ LInv w wr g n r ao1 cap1 bs) (fun i _ => n - (intOf i).toNat)
  case atStart => exact ⟨0, Nat.zero_le _, rfl, HI0.out⟩
  case round =>
    obtain ⟨k, hk, rfl, hinv⟩ := hrel
    have HI : Hid (LInv w wr g n r ao1 cap1 bs) := hinv
    clear hinv
    by_cases hlt : k < n
    · obtain ⟨x, hx, hc, hf, hst⟩ := HI.out.cell k hlt
      have HSt : Hid (∀ y : Nat, y < 256 → LInv w (wr.setCell ⟨g, k, none⟩ (.int .u8 (y : Int))) g n r ao1 cap1 bs) := hst
      clear hst
      go_wp2
      go_roundw
      case rel => exact ⟨k + 1, by omega, by go_num, by
        rw [not_u8 x hx]
        exact HSt.out (255 ^^^ x) (Nat.xor_lt_two_pow (n := 8) (by decide) hx)⟩
      case measure => simp [intOf]; omega
    · go_wp2_with fail
      refine (HCp.out wr HI.out.bel).mono ?_
      rintro e w5 ⟨ao2, cap2, rfl, ho5, hb5⟩
      have HB0 : Hid (Both w (w5.alloc (.cells #[.slice ao2 n cap2, .int .i64 0] 44)) r ao1 cap1 w5.heap.size ao2 cap2 bs 0 0) := by
        have hn' := HN.out
        subst hn'
        have hi := HI.out
        have hb6 : Below wr.heap.size wr (w5.alloc (.cells #[.slice ao2 bs.length cap2, .int .i64 0] 44)) := hb5.alloc hb5.size _
        have hz := hi.bel.size
        exact ⟨hi.rok.later (S := fun _ => False) (KeptIn.ofBelow hb6) (fun h => h) (fun _ _ h => h), ⟨heap_new w5 _, (owns_mono ho5 hz).alloc _, hi.rok.lt, hi.rok.len, Nat.zero_le _, Nat.le_trans hz hb5.size⟩, hi.bel.trans (hb6.mono hz)⟩
      clear ho5 hb5
      go_wp2
      go_loopw [9] (fun i wr => ∃ k a : Nat, k ≤ m ∧ i = .int .i64 k ∧ Both w wr r ao1 cap1 w5.heap.size ao2 cap2 bs a a) (fun i _ => m - (intOf i).toNat)
      case atStart => exact ⟨0, 0, Nat.zero_le _, rfl, HB0.out⟩
      case round =>
        obtain ⟨k, a, hk, rfl, hinv⟩ := hrel
        have HBo : Hid (Both w wr r ao1 cap1 w5.heap.size ao2 cap2 bs a a) := hinv
        clear hinv
        by_cases hlt2 : k < m
        · obtain ⟨sb, so, rfl, hc⟩ := HS.out k hlt2
          have hx0 : wr.cell? ⟨sb, so + k * 2, none⟩ = some (.int .i64 (X k).1) := cell_later HBo.out.bel (hc k hlt2).1
          have hx1 : wr.cell? ⟨sb, so + k * 2 + 1, none⟩ = some (.int .i64 (X k).2) := cell_later HBo.out.bel (hc k hlt2).2.1
          have HRd : Hid (Calls Tryd.prog 18 #[.pointer (some ⟨r, 0, none⟩), .pointer (some ⟨w5.heap.size, 0, none⟩), .agg #[.int .i64 (X k).1, .int .i64 (X k).2]] wr fun e w' => e = .returned (.bool true) ∧ ∃ a', Both w w' r ao1 cap1 w5.heap.size ao2 cap2 bs a' a') :=
            reads_any w wr r ao1 cap1 _ ao2 cap2 bs a _ _ HBo.out HT.out (by rw [HN.out]; omega) (hc k hlt2).2.2
          clear hc
          generalize (X k).1 = kd at *
          generalize (X k).2 = xn at *
          go_wp2_with fail
          refine HRd.out.mono ?_
          rintro e w6 ⟨rfl, a', h6⟩
          have H6 : Hid (∀ q, Both w (w6.drewN q) r ao1 cap1 w5.heap.size ao2 cap2 bs a' a') := fun q => h6.drewN q
          have HA : Hid (∀ q, Calls Tryd.prog 19 #[.pointer (some ⟨r, 0, none⟩)] (w6.drewN q) fun e w' => e = .returned (.int .i64 (a' : Int)) ∧ w' = w6.drewN q) := fun q => rat_any _ r ao1 cap1 bs a' _ (h6.drewN q).r
          have HL : Hid (∀ q, Calls Tryd.prog 20 #[.pointer (some ⟨r, 0, none⟩)] (w6.drewN q) fun e w' => e = .returned (.int .i64 ((n : Int) - (a' : Int))) ∧ ∃ q', w' = (w6.drewN q).drewN q') := fun q => rleft_any _ r ao1 cap1 bs a' n _ (h6.drewN q).r HN
          have c0 := h6.p.c0
          have c1 := h6.p.c1
          have hle := h6.p.le
          rw [HN.out] at c0 hle
          clear h6 hx0 hx1
          go_wp2
          go_quiet (first | (go_at_call 19; exact Calls.quiet_of_same (HA.out _)) | (go_at_call 20; exact Calls.quiet_of (HL.out _)))
          go_wp2
          go_roundw
          case rel => exact ⟨k + 1, a', by omega, by go_num, H6.out _⟩
          case measure => simp [intOf]; omega
        · have HE1 : Hid (Calls Tryd.prog 21 #[.pointer (some ⟨r, 0, none⟩)] wr fun e w' => e = .returned (.int .i64 (endE bs a : Nat)) ∧ Both w w' r ao1 cap1 w5.heap.size ao2 cap2 bs a a) :=
            (rendA_any _ r ao1 cap1 bs a wr HBo.out.r).mono fun e w' hh => ⟨hh.1, by obtain ⟨q, hq⟩ := hh.2; rw [hq]; exact HBo.out.drewN q⟩
          have HE2 : Hid (∀ W, Both w W r ao1 cap1 w5.heap.size ao2 cap2 bs a a → Calls Tryd.prog 22 #[.pointer (some ⟨w5.heap.size, 0, none⟩)] W fun e w' => e = .returned (.int .i64 (endE bs a : Nat)) ∧ Both w w' r ao1 cap1 w5.heap.size ao2 cap2 bs a a) := fun W hW =>
            (pendA_any _ _ ao2 cap2 bs a W hW.p).mono fun e w' hh => ⟨hh.1, by obtain ⟨q, hq⟩ := hh.2; rw [hq]; exact hW.drewN q⟩
          have HHd : Hid (∀ W, Below w.heap.size w W → Calls Tryd.prog 13 #[] W fun e w' => e = .returned (.bool true) ∧ Below w.heap.size w w') := fun W hb =>
            (heads_any _ (HT.out.later hb)).mono fun e w' hh => ⟨hh.1, hb.trans (hh.2.mono hb.size)⟩
          have he := endE_le bs a
          generalize endE bs a = c at *
          go_wp2_with fail
          refine HE1.out.mono ?_
          rintro e w6 ⟨rfl, h6⟩
          have H6 : Hid (Both w w6 r ao1 cap1 w5.heap.size ao2 cap2 bs a a) := h6
          clear h6
          go_wp2_with fail
          refine (HE2.out w6 H6.out).mono ?_
          rintro e w7 ⟨rfl, h7⟩
          have H7 : Hid (Both w w7 r ao1 cap1 w5.heap.size ao2 cap2 bs a a) := h7
          clear h7
          go_wp2_with fail
          refine (HHd.out w7 H7.out.bel).mono ?_
          rintro e w8 ⟨rfl, hb8⟩
          have HB8 : Hid (Below w.heap.size w w8) := hb8
          clear hb8
          go_wp2
          go_ret
          exact ⟨rfl, HB8.out⟩
end Go.Proofs.YtpkobgnbjmefnaaDoor
