import Derived.Test.YtoabigjajnikcaaTH
import Derived.Test.YtoabigjajnikcaaTS
import Derived.Deep.AppendLies
namespace Go.Proofs.Ytoabigjajnikcaa
open Go.RowKit Go.Maps Go.Sort Go.Shelf
attribute [local go_sem] Oper.semAt_some
set_option linter.unusedVariables false
set_option linter.unusedSimpArgs false
set_option maxRecDepth 100000

abbrev fKeys : Nat := 52
abbrev fKeys1 : Nat := 55
theorem sortsA (m : Nat) : AnyZI.SortsIn Try.prog Try.sortedA_ren Fence.wide m :=
  ⟨fun blk off cap ss W hH hblk hsz => callsIn_wide.2 (AnyM.slices_Sort_int Try.sortA blk off cap ss W hH hblk hsz),
   fun p cap W => callsIn_wide.2 (AnyM.slices_Sort_int_none Try.sortA p cap W)⟩
theorem keys_call (mb : Option Nat) (W : World) : Calls Try.prog 52 #[.map mb] W fun e w' => e = .returned (.func (.func 55) #[] #[.pointer (some ⟨W.heap.size, 0, none⟩)]) ∧ w' = W.alloc (.cells #[.map mb] TMp) :=
  (callsIn_wide (n := 5)).1 (AnyZI.keys_in Try.keysA Fence.wide 5 trivial rfl mb W)
theorem sorted_call {H : Type} {R : Value → Option (DataW H × List MemPlace)} (w : World) (b nn : Nat) (D0 : DataW H) (hown : w.ownsMap Try.prog TIn R b nn D0) (hmax : Maps.size D0 ≤ maxLen) (hbytes : Maps.size D0 * 8 ≤ 140737488355328) :
    Calls Try.prog 51 #[.func (.func 55) #[] #[.pointer (some ⟨w.heap.size, 0, none⟩)]] (w.alloc (.cells #[.map (some b)] TMp)) fun e w' => ∃ (v : Value) (ss : List Int), e = .returned v ∧ ss.Perm (intKeys D0) ∧
      w'.ownsRow (w.alloc (.cells #[.map (some b)] TMp)).heap.size TIn 1 v ss.length ((ss.mergeSort (fun x y => decide (x ≤ y))).map encZ) ∧ (v = .slice none 0 0 ↔ ss = []) ∧ Below (w.alloc (.cells #[.map (some b)] TMp)).heap.size (w.alloc (.cells #[.map (some b)] TMp)) w' := by
  have hbl := hown.lt
  have hseq : SeqGives Fence.wide 2 Try.prog 55 #[.pointer (some ⟨w.heap.size, 0, none⟩)] encZ (fun ss => ss.Perm (intKeys D0)) (Maps.size D0) (w.alloc (.cells #[.map (some b)] TMp)) :=
    AnyZI.keys_gives (ρ := Try.keysA_ren) { Try.keysA with } Fence.wide _ trivial rfl (by omega) w.heap.size b nn D0 _ (by simp) (by simp) (by
      obtain ⟨es, clock, hb, Ft, hs, hD⟩ := hown
      exact ⟨es, clock, (Below.heap_alloc _ _ b hbl).trans hb, Ft, hs, hD⟩)
  have cS := AnyZI.sorted_in Try.sortedA Fence.wide 5 trivial trivial trivial trivial rfl (by omega) (sortsA _) (enters_of Try.func54 (by kernel_rfl) rfl) 55 #[.pointer (some ⟨w.heap.size, 0, none⟩)] trivial (enters_of Try.func55 (by kernel_rfl) rfl) _ _ hmax hbytes _ hseq
  exact (callsIn_wide (n := 5)).1 cS
def vcl : Value → List Value
  | .agg cs => cs.toList
  | _ => []
section
variable {w : World} {F : Nat → Prop} {b bm : Nat} {V : Int → Value} {S : St}
theorem sorted_not {po : Option Addr} (h : NoT w po) : Calls Try.prog 44 #[.pointer po] w fun r w' => r = .returned (.slice none 0 0) ∧ w' = w := by
  have hu := usable_not h
  go_enter Try.func44, Try.ntmps44
  go_wp2_with (first | (go_at_call 32; refine hu.mono ?_; rintro e w9 ⟨rfl, hw9⟩; rw [hw9]; clear hw9))
  go_ret
  exact ⟨rfl, rfl⟩
theorem look_run (h : RT w F b bm V S) {k : Int} (hk : k ∈ ids S.L) : (Instr.lookup TMp (.map (some bm)) (.int .i64 k) false).run Try.prog w = .ok (V k) w := by
  obtain ⟨v, ps, hr, hv⟩ := h.mp.lookup keyed Try.underlying74 (zeroEn w) (zd := .held (.agg zC)) (zp := []) rfl (keyAt (h.wf hk))
  rw [hr]
  congr 1
  rw [mapI_at _ _ _ _ hk] at hv
  exact heldE_inj hv
theorem infoE : (Try.prog.info? TEn).map (fun i => (i.zero, i.size, i.bytes)) = some (some (.agg zC), 9, 96) := by kernel_rfl
theorem flat_snoc (L : List En) (V : Int → Value) (k : Nat) (e : En) (hk : L[k]? = some e) : (L.take (k + 1)).flatMap (fun e => vcl (V e.id)) = (L.take k).flatMap (fun e => vcl (V e.id)) ++ vcl (V e.id) := by
  rw [List.take_add_one, hk]; simp
theorem owns_form9 {w : World} {base e size n : Nat} {v : Value} {xs : List Value} (h : w.ownsRow base e size v n xs) : ∃ ao cap, v = .slice ao n cap := by
  rcases h.2 with ⟨rfl, rfl⟩ | ⟨g, cap, cur, rfl, _⟩
  · exact ⟨_, _, rfl⟩
  · exact ⟨_, _, rfl⟩
theorem vcl_len {v : Value} {e : En} (h : PV w F v e) : (vcl v).length = 9 := by
  obtain ⟨da, dc, aa, ac, rfl, _⟩ := h.ex
  simp [vcl, ecl]
theorem ids_at {L : List En} {k : Nat} {e : En} (h : L[k]? = some e) : (ids L)[k]? = some e.id := by simp [ids, h]
set_option maxHeartbeats 4000000 in
theorem sorted_any (h : RT w F b bm V S) : Calls Try.prog 44 #[.pointer (some ⟨b, 0, none⟩)] w fun r w' => ∃ v, r = .returned v ∧ w'.ownsRow w.heap.size TEn 9 v S.L.length (S.L.flatMap fun e => vcl (V e.id)) ∧ Below w.heap.size w w' := by
  obtain ⟨i0, hi, hz0, hz1, hz2⟩ := info_parts infoE
  have HU : Hid _ := usable_any h
  have h2 : w.cell? ⟨b, 2, none⟩ = some (.map (some bm)) := h.c 2
  have hlen : S.L.length ≤ 64 := Nat.le_trans h.ok.len h.ok.m2
  have HK : Hid _ := keys_call (some bm) w
  have HS : Hid _ := sorted_call w bm _ _ h.mp (by rw [mapI_size]; simp [ids]; unfold maxLen; omega) (by rw [mapI_size]; simp [ids]; omega)
  have H : Hid _ := h
  obtain ⟨n, hn⟩ : ∃ n, S.L.length = n := ⟨_, rfl⟩
  have HN : Hid _ := hn
  rw [hn] at hlen ⊢
  clear h hn
  go_enter Try.func44, Try.ntmps44
  go_wp2_with fail
  refine Calls.mono HU.out ?_
  rintro r w9 ⟨rfl, hw⟩
  rw [hw]; clear hw HU
  go_wp2_with fail
  refine Calls.mono HK.out ?_
  rintro r w9 ⟨rfl, hw⟩
  rw [hw]; clear hw HK
  go_wp2_with fail
  refine Calls.mono HS.out ?_
  rintro r w1 ⟨v, ss, rfl, hp, hrow, hnil, hb⟩
  rw [mapI_keys] at hp
  rw [sorted_ids hp H.out.ok.rise] at hrow
  have hsl : ss.length = n := by rw [hp.length_eq]; simp [ids, HN.out]
  rw [hsl] at hrow
  obtain ⟨ia, ic, rfl⟩ := owns_form hrow
  have HB1 : Hid (Below w.heap.size w w1) := (below1 w _).trans (hb.mono (by rw [size1]; omega))
  have hR1 := H.out.later HB1.out
  have HR1 : Hid _ := hR1
  have HIr : Hid (w1.ownsRow 0 TIn 1 (.slice ia n ic) n ((ids S.L).map encZ)) := owns_mono hrow (Nat.zero_le _)
  clear HS hp hrow hnil hb hsl ss hR1
  have HIx : Hid (∀ k, k < n → ∃ g, ia = some ⟨g, 0, none⟩ ∧ g < w1.heap.size ∧ w1.cell? ⟨g, k, none⟩ = some (.int .i64 ((ids S.L)[k]?.getD 0))) := fun k hk => by
    have hl : (ids S.L).length = n := by simp [ids, HN.out]
    rcases HIr.out.2 with ⟨_, h0⟩ | ⟨g, cap, cur, hv, _, hg, _, _, _, _⟩
    · omega
    · simp only [Value.slice.injEq] at hv
      obtain ⟨rfl, _, rfl⟩ := hv
      refine ⟨g, rfl, block_lt hg, ?_⟩
      rw [HIr.out.cellAt k (by omega)]
      simp [hl, hk, encZ]
  clear HIr
  go_wp2
  go_loopw [3, 16] (fun out i wr => ∃ k : Nat, k ≤ n ∧ i = .int .i64 (k : Int) ∧ Hid (wr.ownsRow w1.heap.size TEn 9 out k ((S.L.take k).flatMap fun e => vcl (V e.id)) ∧ Below w1.heap.size w1 wr)) (fun _ i _ => n - (intOf i).toNat)
  case atStart => exact ⟨0, Nat.zero_le _, rfl, ⟨rfl, .inl ⟨rfl, rfl⟩⟩, Below.refl _ _⟩
  case round =>
    obtain ⟨k, hk, rfl, HI⟩ := hrel
    by_cases hlt : k < n
    · obtain ⟨g, rfl, hgl, hcell⟩ := HIx.out k hlt
      obtain ⟨e, he⟩ : ∃ e, S.L[k]? = some e := ⟨_, List.getElem?_eq_getElem (by rw [HN.out]; exact hlt)⟩
      have hem : e ∈ S.L := List.mem_of_getElem? he
      rw [ids_at he] at hcell
      have hx : wr.cell? ⟨g, k, none⟩ = some (.int .i64 e.id) := (cell_block (HI.out.2.block g hgl)).trans hcell
      have hRw := HR1.out.later HI.out.2
      have hc2 : wr.cell? ⟨b, 2, none⟩ = some (.map (some bm)) := hRw.c 2
      have hpv := hRw.pv e hem
      obtain ⟨c0, c1, c2, c3, c4, c5, c6, c7, c8, hv, h1c, _⟩ := hpv.form
      have hlk := look_run hRw (ids_mem hem)
      rw [hv] at hlk
      have HV : Hid (vcl (V e.id) = [c0, c1, c2, c3, c4, c5, c6, c7, c8]) := by show _ = _; rw [hv]; rfl
      obtain ⟨vo, vc, hvo⟩ := owns_form9 HI.out.1
      subst hvo
      have HO : Hid ((wr.alloc (.cells #[c0, c1, c2, c3, c4, c5, c6, c7, c8] TEn)).ownsRow w1.heap.size TEn 9 (.slice vo k vc) k ((S.L.take k).flatMap fun e => vcl (V e.id))) := HI.out.1.alloc _
      have HBw : Hid (Below w1.heap.size w1 (wr.alloc (.cells #[c0, c1, c2, c3, c4, c5, c6, c7, c8] TEn))) := HI.out.2.alloc HI.out.2.size _
      have HNw : Hid (∀ j u, ([c0, c1, c2, c3, c4, c5, c6, c7, c8] : List Value)[j]? = some u → (wr.alloc (.cells #[c0, c1, c2, c3, c4, c5, c6, c7, c8] TEn)).cell? ((⟨wr.heap.size, 0, none⟩ : Addr).add j) = some u) := fun j u hu => by
        rw [add_plain, Nat.zero_add, blk_at (heap_new wr _)]
        simpa using hu
      have H1 : Hid (∀ u ∈ ([c0, c1, c2, c3, c4, c5, c6, c7, c8] : List Value), u.oneCell' = true) := fun u hu => (Array.all_eq_true_iff_forall_mem.1 h1c) u (by simpa using hu)
      have hkz : (k : Int) < (n : Int) := by omega
      have HSz : Hid (w1.heap.size ≤ wr.heap.size) := HI.out.2.size
      have HE : Hid _ := he
      clear HI hRw hpv hv h1c hcell he
      go_wp2_with (first | (at_builtin; refine wpList_append_lies _ rfl (.tmp 20) (.tmp 27) 61 rfl w1.heap.size TEn i0 (.agg zC) 9 96 Try.underlying61 hi hz0 hz1 hz2 rfl (by omega) (.slice vo k vc) k _ rfl HO.out ⟨wr.heap.size, 0, none⟩ 1 1 [c0, c1, c2, c3, c4, c5, c6, c7, c8] rfl rfl HNw.out H1.out (by omega) (by unfold maxLen; omega) (by omega) HBw.out.size _ rfl ?_; intro g2 cp w2 ho2 hg2 hg3 hg4) | fail)
      have HB2 : Hid (Below w1.heap.size w1 w2) := HBw.out.grown hg2 HBw.out.size (fun j hj => by
        rcases HO.out.2 with ⟨hv, _⟩ | ⟨g', _, _, hv, hbg, _⟩
        · rw [hv] at hj; simp [Value.ownBlock] at hj
        · rw [hv] at hj; simp [Value.ownBlock] at hj; omega)
      have HO2 : Hid (w2.ownsRow w1.heap.size TEn 9 (.slice (some ⟨g2, 0, none⟩) (k + 1) cp) (k + 1) ((S.L.take (k + 1)).flatMap fun e => vcl (V e.id))) := by
        show World.ownsRow _ _ _ _ _ _ _
        rw [flat_snoc S.L V k e HE.out, HV.out]; exact ho2
      clear ho2 hg2 hg3 hg4 HO HBw HNw
      go_wp2
      go_roundw
      case rel => exact ⟨k + 1, by omega, by go_num, HO2.out, HB2.out⟩
      case measure => simp [intOf]; omega
    · obtain rfl : k = n := by omega
      have HO := HI.out.1
      rw [List.take_of_length_le (by rw [HN.out]; omega)] at HO
      have HB2 : Hid (Below w.heap.size w wr) := HB1.out.trans (HI.out.2.mono HB1.out.size)
      have HO2 : Hid (wr.ownsRow w.heap.size TEn 9 _ k (S.L.flatMap fun e => vcl (V e.id))) := owns_mono HO HB1.out.size
      clear HI HO
      go_wp2
      go_ret
      exact ⟨_, rfl, HO2.out, HB2.out⟩
end
end Go.Proofs.Ytoabigjajnikcaa
