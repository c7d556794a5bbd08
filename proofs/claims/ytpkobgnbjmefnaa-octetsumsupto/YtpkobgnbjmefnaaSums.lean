import Derived.Test.YtpkobgnbjmefnaaSumsInv
import Derived.Test.YtpkobgnbjmefnaaBurst
namespace Go.Proofs.Ytpkobgnbjmefnaa
open Go.RowKit
set_option linter.unusedVariables false

theorem Try.info23 : (Try.prog.info? 23).map (fun i => (i.zero, i.size, i.bytes)) = some (some (.slice none 0 0), 1, 24) := by kernel_rfl
theorem kept_quiet (g : Nat) (ao : Option Addr) (cap n : Nat) (l : List Nat) (W : World) (q : Nat) (hblk : W.heap[g]? = some (.cells ((l ++ marksTo 70).map bv).toArray 5 (0, 0))) (h : BRow W ao cap l) (hn : l.length = n) :
    Calls Try.prog 8 #[.slice (some ⟨g, 0, none⟩) n (n + 70), .slice ao n cap] (W.drewN q) fun e w' => e = .returned (.bool true) ∧ ∃ m, w' = W.drewN m := by
  refine (kept_true g ao cap n l (W.drewN q) hblk (h.drewN q) hn (by have := h.len; omega)).mono fun e w' hh => ?_
  obtain ⟨he, m, hm⟩ := hh
  exact ⟨he, q + m, by rw [hm, World.drewN_drewN]⟩

theorem SInv.cellLent {w wr : World} {L : Nat → List Nat} {k ub uc : Nat} {v : Value} {G : Nat → Nat} (h : SInv w wr L k v (.slice (some ⟨ub, 0, none⟩) k uc) G) (j : Nat) (hj : j < k) :
    wr.cell? ⟨ub, j, none⟩ = some (.slice (some ⟨G j, 0, none⟩) (L j).length ((L j).length + 70)) := by
  have := h.lent.cellAt j (by simpa using hj)
  rw [this]; simp [hj, lentVal]
theorem SInv.crcLent {w wr : World} {L : Nat → List Nat} {k ub uc : Nat} {v : Value} {G : Nat → Nat} (h : SInv w wr L k v (.slice (some ⟨ub, 0, none⟩) k uc) G)
    {A : Nat → Option Addr} {C : Nat → Nat} (hL : ∀ i, i < k → BRow w (A i) (C i) (L i)) (hk : k ≤ 140737488351232) :
    Calls Try.prog 7 #[.slice (some ⟨ub, 0, none⟩) k uc] wr fun e w' => e = .returned (.int .u32 (crcOf (flat L k) : Nat)) ∧ w' = wr :=
  crc_some ub 0 uc k (fun i => some ⟨G i, 0, none⟩) (fun i => (L i).length + 70) L wr hk (fun i hi => by rw [Nat.zero_add]; exact h.cellLent i hi)
    (fun i hi => lent_brow (h.blk i hi) (hL i hi).lt (hL i hi).len _)
theorem SInv.alloc {w wr : World} {L : Nat → List Nat} {k : Nat} {v u : Value} {G : Nat → Nat} (h : SInv w wr L k v u G) (o : Obj) : SInv w (wr.alloc o) L k v u G :=
  ⟨h.all.alloc o, h.lent.alloc o, fun i hi => by rw [Below.heap_alloc _ _ _ (block_lt (h.blk i hi))]; exact h.blk i hi, h.ne, h.bel.alloc h.bel.size o⟩

theorem crc_97 : crcOf [97] = 3251651376 := by decide +kernel
theorem crc_letter (W : World) :
    Calls Try.prog 7 #[.slice (some ⟨W.heap.size + 1, 0, none⟩) 1 1] ((W.alloc (.cells #[.int .u8 97] 5)).alloc (.cells #[.slice (some ⟨W.heap.size, 0, none⟩) 1 1] 23))
      fun e w' => e = .returned (.int .u32 3251651376) ∧ w' = ((W.alloc (.cells #[.int .u8 97] 5)).alloc (.cells #[.slice (some ⟨W.heap.size, 0, none⟩) 1 1] 23)) := by
  have := crc_new (W.alloc (.cells #[.int .u8 97] 5)) (W.heap.size + 1) (by simp) (some ⟨W.heap.size, 0, none⟩) 1 [97] 1 rfl
    ⟨by decide, by decide, fun h => by simp at h, fun _ => ⟨W.heap.size, 0, rfl, fun k hk => by
      have : k = 0 := by simp at hk; omega
      subst this
      exact World.cell?_alloc_mark W #[.int .u8 97] 5 (0, 0) 0⟩⟩
  rw [crc_97] at this
  exact this

set_option maxHeartbeats 1000000 in
theorem sums_some (pb po pcap n : Nat) (A : Nat → Option Addr) (C : Nat → Nat) (L : Nat → List Nat) (w : World) (hn : n ≤ 1048576) (hn0 : 0 < n) (HT : Hid (∀ k, k ≤ n → (flat L k).length ≤ 1048576))
    (HP : Hid (∀ i, i < n → w.cell? ⟨pb, po + i, none⟩ = some (.slice (A i) (L i).length (C i)))) (HL : Hid (∀ i, i < n → BRow w (A i) (C i) (L i))) :
    Calls Try.prog 3 #[.slice (some ⟨pb, po, none⟩) n pcap] w fun e w' => e = .returned (.bool true) ∧ Below w.heap.size w w' := by
  obtain ⟨i0, hi, hz0, hz1, hz2⟩ := info_parts Try.info5
  obtain ⟨i1, hi', hz0', hz1', hz2'⟩ := info_parts Try.info23
  go_enter Try.func3, Try.ntmps3
  go_wp2
  go_loopw [3, 4, 5] (fun v u i wr => ∃ k : Nat, ∃ G : Nat → Nat, k ≤ n ∧ i = .int .i64 k ∧ SInv w wr L k v u G) (fun _ _ i _ => n - (intOf i).toNat)
  case atStart => exact ⟨0, fun _ => 0, Nat.zero_le _, rfl, ⟨World.ownsRow_nil _ _ _ _, World.ownsRow_nil _ _ _ _, fun i hi => by omega, fun i hi => by omega, Below.refl _ _⟩⟩
  case round =>
    obtain ⟨k, G, hk, rfl, hinv⟩ := hrel
    by_cases hlt : k < n
    · have hcell := cell_later hinv.bel (HP.out k hlt)
      have HR : Hid (BRow w (A k) (C k) (L k)) := HL.out k hlt
      have ht1 : (flat L k).length + (L k).length ≤ 1048576 := by have := HT.out (k + 1) (by omega); simpa [flat] using this
      have HB : Hid (SInv w wr L k u3 u4 G) := hinv
      clear hinv
      go_wp2_with (at_builtin; refine wpList_append_two _ rfl (.tmp 14) (.tmp 18) 23 rfl w.heap.size 5 i0 (.int .u8 0) 1 Try.underlying23 hi hz0 hz1 hz2 rfl _ (flat L k).length ((flat L k).map bv) rfl HB.out.all (A k) (L k).length (C k) ((L k).map bv) rfl HR.out.nil' (by simp) (HR.out.later HB.out.bel).news (bv_one _) (by unfold maxLen; omega) (by omega) HB.out.bel.size ?_)
      intro v' w1 hown hgrow hfr
      have hA := HB.out.stepA hown hgrow hfr
      have HA : Hid (w1.ownsRow w.heap.size 5 1 v' (flat L (k + 1)).length ((flat L (k + 1)).map bv) ∧ w1.ownsRow w.heap.size 23 1 u4 k ((List.range k).map (lentVal L G)) ∧
        (∀ i, i < k → w1.heap[G i]? = some (.cells ((L i ++ marksTo 70).map bv).toArray 5 (0, 0))) ∧ (∀ i, i < k → v'.ownBlock ≠ some (G i)) ∧ Below w.heap.size w w1) := hA
      have hcell1 := cell_later hA.2.2.2.2 (HP.out k hlt)
      have HC1 : Hid (Calls Try.prog 5 #[.slice (A k) (L k).length (C k)] w1 fun e w' => ∃ g, e = .returned (.slice (some ⟨g, 0, none⟩) (L k).length ((L k).length + 70)) ∧ Lent w1 w' g (L k)) :=
        lend_any (A k) (C k) (L k).length (L k) w1 (HR.out.later hA.2.2.2.2) rfl HR.out.len
      clear hA hown hgrow hfr hcell HB
      go_wp2_with fail
      refine HC1.out.mono ?_
      rintro e w2 ⟨g, rfl, hlent⟩
      have HLt : Hid (Lent w1 w2 g (L k)) := hlent
      have HU : Hid (w2.ownsRow w.heap.size 23 1 u4 k ((List.range k).map (lentVal L G))) := owns_same HA.out.2.1 fun g' hgu => hlent.bel.block g' (owns_lt HA.out.2.1 g' hgu).1
      have HZ : Hid (w.heap.size ≤ w2.heap.size) := Nat.le_trans HA.out.2.2.2.2.size hlent.bel.size
      clear hlent
      go_wp2_with (at_builtin; refine wpList_append_two _ rfl (.tmp 20) (.tmp 26) 22 rfl w.heap.size 23 i1 (.slice none 0 0) 24 Try.underlying22 hi' hz0' hz1' hz2' rfl _ k _ rfl (HU.out.alloc _) (some ⟨w2.heap.size, 0, none⟩) 1 1 [.slice (some ⟨g, 0, none⟩) (L k).length ((L k).length + 70)] rfl (by simp) rfl (news_one _ _ _) (by simp [Value.oneCell']) (by unfold maxLen; omega) (by omega) (by have := HZ.out; simp; omega) ?_)
      intro u' w3 hown3 hgrow3 _
      have HN := SInv.stepC HA.out.1 HA.out.2.1 HA.out.2.2.1 HA.out.2.2.2.1 HA.out.2.2.2.2 HLt.out _ hown3 hgrow3
      have HN' : Hid (SInv w w3 L (k + 1) v' u' (upd G k g)) := HN
      clear HN hown3 hgrow3
      go_wp2
      go_roundw
      case rel => exact ⟨k + 1, _, by omega, by go_num, HN'.out⟩
      case measure => simp [intOf]; omega
    · have ek : k = n := by omega
      subst ek
      obtain ⟨ao, ac, hv, hall⟩ := BRow.own hinv.all (flat_lt L k fun i hi => (HL.out i hi).lt) (by have := HT.out k (Nat.le_refl _); omega)
      obtain ⟨ub, uc, hu⟩ : ∃ ub uc, u4 = .slice (some ⟨ub, 0, none⟩) k uc := by
        rcases hinv.lent.2 with ⟨_, h0⟩ | ⟨g, cap, cur, h1, _⟩
        · omega
        · exact ⟨g, cap, h1⟩
      subst hv
      subst hu
      have HI : Hid (SInv w wr L k (.slice ao (flat L k).length ac) (.slice (some ⟨ub, 0, none⟩) k uc) G) := hinv
      have HALL : Hid (BRow wr ao ac (flat L k)) := hall
      clear hinv hall
      go_wp2_with fail
      refine (refCrc_any ao ac (flat L k) wr HALL.out).mono ?_
      rintro e w2 ⟨rfl, hw⟩
      rw [hw]
      clear hw
      have HCR := HI.out.crcLent (fun i hi => HL.out i hi) (by omega)
      have HCR' : Hid (Calls Try.prog 7 #[.slice (some ⟨ub, 0, none⟩) k uc] wr fun e w' => e = .returned (.int .u32 (crcOf (flat L k) : Nat)) ∧ w' = wr) := HCR
      clear HCR
      have HX : Hid ((((crcOf (flat L k) : Nat) : Int) != ((crcOf (flat L k) : Nat) : Int)) = false) := by simp [Hid]
      have HW2 : Hid (SInv w (wr.alloc (.cells #[.slice ao (flat L k).length ac] 23)) L k (.slice ao (flat L k).length ac) (.slice (some ⟨ub, 0, none⟩) k uc) G) := HI.out.alloc _
      go_wp2_with fail
      refine HCR'.out.mono ?_
      rintro e w2 ⟨rfl, hw⟩
      rw [hw]
      clear hw
      have hx := HX.out
      go_wp2_with fail
      refine (crc_new wr _ rfl ao ac (flat L k) _ rfl HALL.out).mono ?_
      rintro e w2 ⟨rfl, hw⟩
      rw [hw]
      clear hw
      generalize crcOf (flat L k) = x at *
      go_wp2_with fail
      clear HCR' HALL HI
      generalize wr.alloc (.cells #[.slice ao (flat L k).length ac] 23) = W at *
      go_loopw [7] (fun i wr => ∃ j q : Nat, j ≤ k ∧ i = .int .i64 j ∧ wr = W.drewN q) (fun i _ => k - (intOf i).toNat)
      case atStart => exact ⟨0, 0, Nat.zero_le _, rfl, rfl⟩
      case round =>
        obtain ⟨j, q, hj, rfl, rfl⟩ := hrel
        by_cases hjk : j < k
        · have hc1 := HW2.out.cellLent j hjk
          have hc2 := cell_later HW2.out.bel (HP.out j hjk)
          have HK : Hid (∀ m, Calls Try.prog 8 #[.slice (some ⟨G j, 0, none⟩) (L j).length ((L j).length + 70), .slice (A j) (L j).length (C j)] (W.drewN (q + m)) fun e w' => e = .returned (.bool true) ∧ ∃ m', w' = W.drewN (q + m')) := fun m => by
            have := kept_quiet (G j) (A j) (C j) _ (L j) (W.drewN q) m (HW2.out.blk j hjk) (((HL.out j hjk).later HW2.out.bel).drewN q) rfl
            simpa only [World.drewN_drewN] using this
          go_wp2
          go_quiet ((go_at_call 8; go_must (exact HK.out _)))
          go_wp2
          go_roundw
          case rel => exact ⟨j + 1, _, by omega, by go_num, rfl⟩
          case measure => simp [intOf]; omega
        · go_wp2_with fail
          refine (crc_nil none 0 (W.drewN q)).mono ?_
          rintro e w2 ⟨rfl, hw⟩
          rw [hw]
          clear hw
          go_wp2_with fail
          refine (crc_letter (W.drewN q)).mono ?_
          rintro e w2 ⟨rfl, hw⟩
          rw [hw]
          clear hw
          go_wp2
          go_ret
          refine ⟨rfl, ?_⟩
          have h0 : Below w.heap.size w (W.drewN q) := below_drewN HW2.out.bel q
          have hsz : w.heap.size ≤ W.heap.size := HW2.out.bel.size
          exact (h0.alloc hsz _).alloc (by simp; omega) _

set_option maxHeartbeats 1000000 in
theorem sums_nil (po : Option Addr) (pcap : Nat) (w : World) :
    Calls Try.prog 3 #[.slice po 0 pcap] w fun e w' => e = .returned (.bool true) ∧ Below w.heap.size w w' := by
  go_enter Try.func3, Try.ntmps3
  go_wp2
  refine wp_loop_rounds 1 ?_
  rw [rounds_succ]
  go_wp2_with fail
  refine (refCrc_nil none 0 w).mono ?_
  rintro e w2 ⟨rfl, hw⟩
  rw [hw]
  clear hw
  go_wp2_with fail
  refine (crc_nil none 0 w).mono ?_
  rintro e w2 ⟨rfl, hw⟩
  rw [hw]
  clear hw
  go_wp2_with fail
  refine (crc_new w _ rfl none 0 [] 0 rfl ⟨by decide, by decide, fun _ => ⟨rfl, rfl⟩, fun h => absurd rfl h⟩).mono ?_
  rw [crcOf_nil]
  rintro e w2 ⟨rfl, hw⟩
  rw [hw]
  clear hw
  go_wp2_with fail
  refine wp_loop_rounds 1 ?_
  rw [rounds_succ]
  go_wp2_with fail
  refine (crc_nil none 0 _).mono ?_
  rintro e w2 ⟨rfl, hw⟩
  rw [hw]
  clear hw
  go_wp2_with fail
  have HLet : Hid (Calls Try.prog 7 #[.slice (some ⟨w.heap.size + 1 + 1, 0, none⟩) 1 1] (((w.alloc (.cells #[.slice none 0 0] 23)).alloc (.cells #[.int .u8 97] 5)).alloc (.cells #[.slice (some ⟨w.heap.size + 1, 0, none⟩) 1 1] 23))
      fun e w' => e = .returned (.int .u32 3251651376) ∧ w' = (((w.alloc (.cells #[.slice none 0 0] 23)).alloc (.cells #[.int .u8 97] 5)).alloc (.cells #[.slice (some ⟨w.heap.size + 1, 0, none⟩) 1 1] 23))) := by
    have := crc_letter (w.alloc (.cells #[.slice none 0 0] 23))
    simpa only [Hid, World.size_alloc] using this
  refine HLet.out.mono ?_
  rintro e w2 ⟨rfl, hw⟩
  rw [hw]
  clear hw
  go_wp2
  go_ret
  exact ⟨rfl, (((Below.refl _ _).alloc (Nat.le_refl _) _).alloc (by simp) _).alloc (by simp; omega) _⟩
end Go.Proofs.Ytpkobgnbjmefnaa
