import Derived.Test.YtpkobgnbjmefnabDoorOwnL
namespace Go.Proofs.YtpkobgnbjmefnabDoor
open Go.RowKit
set_option linter.unusedVariables false
set_option maxRecDepth 100000

theorem infoBS : (Tryd.prog.info? 37).map (fun i => (i.zero, i.size, i.bytes)) = some (some (.slice none 0 0), 1, 24) := by kernel_rfl
theorem mkb_val (i k : Nat) : IntKind.u8.wrap (7 * (i : Int) + 3 * (k : Int) + 1) = ((mkb i k : Nat) : Int) := by
  rw [IntKind.wrap_u8]; unfold mkb; omega
theorem tl_val (i k : Nat) : IntKind.u8.wrap (200 + (i : Int) + (k : Int)) = ((tl i k : Nat) : Int) := by
  rw [IntKind.wrap_u8]; unfold tl; omega

set_option maxHeartbeats 4000000 in
theorem own_some (B lb lo n ncap : Nat) (L : Nat → Value) (len : Nat → Nat) (w : World) (hn : n ≤ 64) (h0 : Lists w B lb lo n L len) :
    Calls Tryd.prog 60 #[.slice (some ⟨lb, lo, none⟩) n ncap] w fun e w' => e = .returned (.bool true) ∧ KeptIn (OwnSet n L) w w' := by
  obtain ⟨i0, hi, hz0, hz1, hz2⟩ := info_parts Tryd.info5
  obtain ⟨i1, hi', hz0', hz1', hz2'⟩ := info_parts infoBS
  have H0 : Hid (Lists w B lb lo n L len) := h0
  clear h0
  go_enter Tryd.func60, Tryd.ntmps60
  go_wp2
  go_loopw [3] (fun iv wr => ∃ i : Nat, i ≤ n ∧ iv = .int .i64 i ∧ AInv w wr B n L len i 0) (fun iv _ => n - (intOf iv).toNat)
  case atStart => exact ⟨0, Nat.zero_le _, rfl, AInv.start H0.out⟩
  case round =>
    obtain ⟨i, hin, rfl, hA⟩ := hrel
    have HA : Hid (AInv w wr B n L len i 0) := hA
    clear hA
    by_cases hlt : i < n
    · obtain ⟨ao, cap, hL, hpos⟩ := H0.out.form i hlt
      have HLf : Hid (L i = .slice ao (len i) cap) := hL
      have HPos : Hid (0 < len i → ∃ g, ao = some ⟨g, 0, none⟩) := hpos
      have hsm := H0.out.small i hlt
      clear hL hpos
      go_wp2
      go_loopw [4] (fun kv wr2 => ∃ k : Nat, k ≤ len i ∧ kv = .int .i64 k ∧ AInv w wr2 B n L len i k) (fun kv _ => len i - (intOf kv).toNat)
      case atStart => exact ⟨0, Nat.zero_le _, rfl, HA.out⟩
      case round =>
        obtain ⟨k, hk, rfl, hA2⟩ := hrel
        have hc : wr.cell? ⟨lb, lo + i, none⟩ = some (.slice ao (len i) cap) := by rw [← HLf.out]; exact H0.out.cellIn hA2.kept i hlt
        have HA2 : Hid (AInv w wr B n L len i k) := hA2
        clear hA2
        by_cases hlk : k < len i
        · obtain ⟨g, rfl⟩ := HPos.out (by omega)
          obtain ⟨⟨x, hx⟩, hfz, hst⟩ := AInv.store H0.out HA2.out hlt hlk HLf.out
          have HSt : Hid (AInv w (wr.setCell ⟨g, k, none⟩ (.int .u8 ((mkb i k : Nat) : Int))) B n L len i (k + 1)) := hst
          clear hst
          have hv := mkb_val i k
          go_wp2
          go_roundw
          case rel => exact ⟨k + 1, by omega, by go_num, HSt.out⟩
          case measure => simp [intOf]; omega
        · obtain rfl : k = len i := by omega
          have HNx : Hid (AInv w wr B n L len (i + 1) 0) := HA2.out.next hlt
          go_wp2
          go_roundw
          case rel => exact ⟨i + 1, by omega, by go_num, HNx.out⟩
          case measure => simp [intOf]; omega
    · have hin' : n = i := by omega
      subst hin'
      have HC0 : Hid (CInv w wr B n L len (fun _ => .slice none 0 0) (.slice none 0 0) 0) := CInv.start HA.out _
      clear HA hlt hin
      go_wp2
      go_loopw [5, 6] (fun u iv wr2 => ∃ (i : Nat) (G : Nat → Value), i ≤ n ∧ iv = .int .i64 i ∧ CInv w wr2 B n L len G u i) (fun _ iv _ => n - (intOf iv).toNat)
      case atStart => exact ⟨0, _, Nat.zero_le _, rfl, HC0.out⟩
      case round =>
        obtain ⟨i, G, hin, rfl, hC⟩ := hrel
        have HC : Hid (CInv w wr B n L len G u5 i) := hC
        clear hC
        by_cases hlt : i < n
        · obtain ⟨ao, cap, hL, hpos⟩ := H0.out.form i hlt
          have HLf : Hid (L i = .slice ao (len i) cap) := hL
          have hsm := H0.out.small i hlt
          have hc : wr.cell? ⟨lb, lo + i, none⟩ = some (.slice ao (len i) cap) := by rw [← hL]; exact H0.out.cellIn HC.out.kept i hlt
          have HD0 : Hid (DInv w wr B n L len G u5 i (.slice ao (len i) cap) 0) := by rw [← hL]; exact HC.out.begin H0.out hlt
          clear hL hpos
          go_wp2
          go_loopw [7, 8] (fun v kv wr3 => ∃ (k : Nat), k ≤ 70 ∧ kv = .int .i64 k ∧ DInv w wr3 B n L len G u5 i v k) (fun _ kv _ => 70 - (intOf kv).toNat)
          case atStart => exact ⟨0, by omega, rfl, HD0.out⟩
          case round =>
            obtain ⟨k, hk, rfl, hD⟩ := hrel
            obtain ⟨vao, vcap, hv⟩ := owns_form hD.cur
            subst hv
            have HD : Hid (DInv w wr B n L len G u5 i (.slice vao (len i + k) vcap) k) := hD
            clear hD
            by_cases hlk : k < 70
            · have hval := tl_val i k
              have HO : Hid (∀ o, (wr.alloc o).ownsRow B 5 1 (.slice vao (len i + k) vcap) (len i + k) ((marks i (len i) ++ tails i k).map bv)) := fun o => HD.out.cur.alloc o
              have HZ : Hid (B ≤ wr.heap.size) := Nat.le_trans H0.out.base HD.out.kept.size
              go_wp2_with (at_builtin; refine wpList_append_three _ rfl (.tmp 54) (.tmp 60) 37 rfl B 5 i0 (.int .u8 0) 1 Tryd.underlying37 hi hz0 hz1 hz2 rfl (.slice vao (len i + k) vcap) (len i + k) ((marks i (len i) ++ tails i k).map bv) rfl (HO.out _) ⟨wr.heap.size, 0, none⟩ 1 1 [.int .u8 ((tl i k : Nat) : Int)] rfl rfl (news_one wr _ _ _ rfl) (by simp [Value.oneCell']) (by unfold maxLen; omega) (by omega) (by have := HZ.out; simp; omega) ?_)
              intro ao2 cap2 w1 ho hf
              have HN : Hid (DInv w w1 B n L len G u5 i (.slice ao2 (len i + k + 1) cap2) (k + 1)) := DInv.grow H0.out hlt HD.out ((Below.refl wr.heap.size wr).alloc (Nat.le_refl _) (.cells #[.int .u8 ((tl i k : Nat) : Int)] 5)) (by rw [List.map_append, List.append_assoc]; exact ho) (hf.imp id (And.imp_left fun h g hg => by have := h g hg; simpa using this))
              clear ho hf
              go_wp2
              go_roundw
              case rel => exact ⟨k + 1, by omega, by go_num, HN.out⟩
              case measure => simp [intOf]; omega
            · have hk7 : k = 70 := by omega
              subst hk7
              have HU : Hid (∀ o, (wr.alloc o).ownsRow w.heap.size 37 1 u5 i ((List.range i).map G)) := fun o => HD.out.row.alloc o
              have HZ : Hid (w.heap.size ≤ wr.heap.size) := HD.out.kept.size
              go_wp2_with (at_builtin; refine wpList_append_two _ rfl (.tmp 62) (.tmp 64) 112 rfl w.heap.size 37 i1 (.slice none 0 0) 24 Tryd.underlying112 hi' hz0' hz1' hz2' rfl u5 i _ rfl (HU.out _) (some ⟨wr.heap.size, 0, none⟩) 1 1 [.slice vao (len i + 70) vcap] rfl (by simp) rfl (news_one _ _ _) (by simp [Value.oneCell']) (by unfold maxLen; omega) (by omega) (by have := HZ.out; simp; omega) ?_)
              intro u' w1 ho hg _
              have HN : Hid (CInv w w1 B n L len (updV G i (.slice vao (len i + 70) vcap)) u' (i + 1)) := DInv.finish H0.out hlt HD.out ((Below.refl _ _).alloc (Nat.le_refl _) _) ho hg
              clear ho hg
              go_wp2
              go_roundw
              case rel => exact ⟨i + 1, _, by omega, by go_num, HN.out⟩
              case measure => simp [intOf]; omega
        · have hin' : n = i := by omega
          subst hin'
          obtain ⟨ub, ucap, hu⟩ : ∃ uo uc, u5 = .slice uo n uc := owns_form HC.out.row
          subst hu
          clear hlt hin
          go_wp2
          go_loopw [9] (fun iv wr2 => ∃ (i q : Nat), i ≤ n ∧ iv = .int .i64 i ∧ wr2 = wr.drewN q) (fun iv _ => n - (intOf iv).toNat)
          case atStart => exact ⟨0, 0, Nat.zero_le _, rfl, rfl⟩
          case round =>
            rename_i wrr
            obtain ⟨i, q, hin, rfl, rfl⟩ := hrel
            by_cases hlt : i < n
            · obtain ⟨g5, rfl⟩ : ∃ g5, ub = some ⟨g5, 0, none⟩ := by
                rcases HC.out.row.2 with ⟨hv, h0⟩ | ⟨g, cap, cur, hv, _⟩
                · omega
                · simp only [Value.slice.injEq] at hv
                  exact ⟨g, hv.1⟩
              obtain ⟨ao, cap, hL, hpos⟩ := H0.out.form i hlt
              have HLf : Hid (L i = .slice ao (len i) cap) := hL
              have HPos : Hid (0 < len i → ∃ g, ao = some ⟨g, 0, none⟩) := hpos
              have hsm := H0.out.small i hlt
              have hc : wr.cell? ⟨lb, lo + i, none⟩ = some (.slice ao (len i) cap) := by rw [← hL]; exact H0.out.cellIn HC.out.kept i hlt
              obtain ⟨gg, gcap, hG⟩ : ∃ gg gcap, G i = .slice (some ⟨gg, 0, none⟩) (len i + 70) gcap := by
                rcases (HC.out.gr i hlt).2 with ⟨hv, h0⟩ | ⟨g, cap, cur, hv, _⟩
                · omega
                · exact ⟨g, cap, hv⟩
              have hgc : wr.cell? ⟨g5, i, none⟩ = some (.slice (some ⟨gg, 0, none⟩) (len i + 70) gcap) := by
                rw [HC.out.row.cellAt i (by omega), ← hG]; simp [hlt]
              have HRd : Hid (∀ g, ao = some ⟨g, 0, none⟩ → ∀ k, k < len i → wr.cell? ⟨g, k, none⟩ = some (.int .u8 ((mkb i k : Nat) : Int))) := fun g hg k hk =>
                HC.out.read i hlt g (by rw [hL, hg]; rfl) k _ (marks_get i _ k hk)
              have HGd : Hid (∀ k, k < 70 → wr.cell? ⟨gg, len i + k, none⟩ = some (.int .u8 ((tl i k : Nat) : Int))) := fun k hk => by
                have := HC.out.gr i hlt
                rw [hG] at this
                rw [this.cellAt (len i + k) (by omega), List.getElem?_map, List.getElem?_append_right (by rw [marks_length]; omega), marks_length, Nat.add_sub_cancel_left, tails_get i 70 k hk]; rfl
              clear hL hpos hG
              generalize len i = m at *
              go_wp2
              go_loopw [10] (fun kv wr2 => ∃ (k q : Nat), k ≤ m ∧ kv = .int .i64 k ∧ wr2 = wr.drewN q) (fun kv _ => m - (intOf kv).toNat)
              case atStart => exact ⟨0, _, Nat.zero_le _, rfl, rfl⟩
              case round =>
                obtain ⟨k, q, hk, rfl, rfl⟩ := hrel
                by_cases hlk : k < m
                · obtain ⟨g, rfl⟩ := HPos.out (by omega)
                  have hx := HRd.out g rfl k hlk
                  have hval := mkb_val i k
                  go_wp2
                  go_roundw
                  case rel => exact ⟨k + 1, _, by omega, by go_num, rfl⟩
                  case measure => simp [intOf]; omega
                · go_wp2
                  go_loopw [11] (fun kv wr2 => ∃ (k q : Nat), k ≤ 70 ∧ kv = .int .i64 k ∧ wr2 = wr.drewN q) (fun kv _ => 70 - (intOf kv).toNat)
                  case atStart => exact ⟨0, _, Nat.zero_le _, rfl, rfl⟩
                  case round =>
                    obtain ⟨k, q, hk, rfl, rfl⟩ := hrel
                    by_cases hlk : k < 70
                    · have hx := HGd.out k hlk
                      have hval := tl_val i k
                      go_wp2
                      go_quiet (fail)
                      go_wp2
                      go_roundw
                      case rel => exact ⟨k + 1, _, by omega, by go_num, rfl⟩
                      case measure => simp [intOf]; omega
                    · go_wp2
                      go_roundw
                      case rel => exact ⟨i + 1, _, by omega, by go_num, rfl⟩
                      case measure => simp [intOf]; omega
            · have HK : Hid (KeptIn (OwnSet n L) w wr) := HC.out.kept
              go_wp2
              go_ret
              exact ⟨rfl, ⟨HK.out.os, HK.out.tape, HK.out.output, HK.out.size, HK.out.block⟩⟩
end Go.Proofs.YtpkobgnbjmefnabDoor
