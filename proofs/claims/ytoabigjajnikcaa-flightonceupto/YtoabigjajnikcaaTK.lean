import Derived.Test.YtoabigjajnikcaaTJ
import Derived.Test.YtoabigjajnikcaaTG
import Derived.Lib.SlBytesConst
namespace Go.Proofs.Ytoabigjajnikcaa
open Go.RowKit Go.Maps
attribute [local go_sem] Oper.semAt_some
set_option linter.unusedVariables false
set_option linter.unusedSimpArgs false
set_option maxRecDepth 100000

section
variable {w : World} {F : Nat → Prop} {b bm : Nat} {V : Int → Value} {S : St}
theorem find_form (h : RT w F b bm V S) (e : En) (he : e ∈ S.L) : ∃ c0 c1 c2 c3 c4 c5 c6 c8, (#[c0, c1, c2, c3, c4, c5, c6, .bool e.rd, c8] : Array Value).all (·.oneCell') = true ∧ Calls Try.prog 35 #[.pointer (some ⟨b, 0, none⟩), .int .i64 e.id] w fun r w'' => r = .returned (.tuple #[.agg #[c0, c1, c2, c3, c4, c5, c6, .bool e.rd, c8], .int .i64 0]) ∧ Below w.heap.size w w'' := by
  obtain ⟨da, dc, aa, ac, hv, _, _⟩ := (h.pv e he).ex
  exact ⟨_, _, _, _, _, _, _, _, oneEcl e da aa dc ac, find_yes h e.id (ids_mem he) _ _ _ _ _ _ _ _ _ hv (oneEcl e da aa dc ac)⟩
theorem take_pend (h : RT w F b bm V S) (e : En) (he : e ∈ S.L) (hr : e.rd = false) : Calls Try.prog 21 #[.pointer (some ⟨b, 0, none⟩), .int .i64 e.id] w fun r w' => r = .returned (.tuple #[.slice none 0 0, .int .i64 133]) ∧ Below w.heap.size w w' := by
  obtain ⟨c0, c1, c2, c3, c4, c5, c6, c8, h1, hf⟩ := find_form h e he
  exact take_bad _ _ 0 c0 c1 c2 c3 c4 c5 c6 c8 e.rd h1 hf (.inr ⟨rfl, hr⟩)
theorem take_no (h : RT w F b bm V S) (k : Int) (hk : k ∉ ids S.L) (hw : (Lit.int .i64 k).wf = true) : Calls Try.prog 21 #[.pointer (some ⟨b, 0, none⟩), .int .i64 k] w fun r w' => r = .returned (.tuple #[.slice none 0 0, .int .i64 132]) ∧ Below w.heap.size w w' :=
  take_bad _ _ 132 _ _ _ _ _ _ _ _ false (by simp [Value.oneCell']) (find_no h k hk hw) (.inl (by decide))
theorem take_not {po : Option Addr} (h : NoT w po) (k : Int) : Calls Try.prog 21 #[.pointer po, .int .i64 k] w fun r w' => r = .returned (.tuple #[.slice none 0 0, .int .i64 1]) ∧ Below w.heap.size w w' :=
  take_bad _ _ 1 _ _ _ _ _ _ _ _ false (by simp [Value.oneCell']) (find_not h k) (.inl (by decide))
theorem done_rdy (h : RT w F b bm V S) (e : En) (he : e ∈ S.L) (hr : e.rd = true) (vA : Value) : Calls Try.prog 19 #[.pointer (some ⟨b, 0, none⟩), .int .i64 e.id, vA] w fun r w' => r = .returned (.int .i64 133) ∧ Below w.heap.size w w' := by
  obtain ⟨c0, c1, c2, c3, c4, c5, c6, c8, h1, hf⟩ := find_form h e he
  exact done_bad _ _ 0 vA c0 c1 c2 c3 c4 c5 c6 c8 e.rd h1 hf (.inr ⟨rfl, hr⟩)
theorem done_no (h : RT w F b bm V S) (k : Int) (hk : k ∉ ids S.L) (hw : (Lit.int .i64 k).wf = true) (vA : Value) : Calls Try.prog 19 #[.pointer (some ⟨b, 0, none⟩), .int .i64 k, vA] w fun r w' => r = .returned (.int .i64 132) ∧ Below w.heap.size w w' :=
  done_bad _ _ 132 vA _ _ _ _ _ _ _ _ false (by simp [Value.oneCell']) (find_no h k hk hw) (.inl (by decide))
theorem done_not {po : Option Addr} (h : NoT w po) (k : Int) (vA : Value) : Calls Try.prog 19 #[.pointer po, .int .i64 k, vA] w fun r w' => r = .returned (.int .i64 1) ∧ Below w.heap.size w w' :=
  done_bad _ _ 1 vA _ _ _ _ _ _ _ _ false (by simp [Value.oneCell']) (find_not h k) (.inl (by decide))
end
theorem TAct.below {w w' : World} {F F' : Nat → Prop} {b bm : Nat} {V' : Int → Value} {S' : St} (h : TAct w w' F F' b bm V' S') {B : Nat} (hB : B ≤ w.heap.size) (hb : B ≤ b) (hm : B ≤ bm) : Below B w w' := h.kept.below hB (fun g hg e => by omega)
def qz (c : Int) : Rq := ⟨0, 0, c, 0, 0, []⟩
theorem brow0 (w : World) : BRow w none 0 [] := (FRow.nil w (fun _ => False)).row
theorem lit_brow (W : World) (cs : List Nat) (fr : Nat × Nat) (hlt : ∀ x ∈ cs, x < 256) (hlen : cs.length ≤ 140737488351232) (cap : Nat) :
    BRow (W.alloc (.cells (cs.map bv).toArray 5 fr)) (some ⟨W.heap.size, 0, none⟩) cap cs := by
  refine ⟨hlt, hlen, fun h => by simp at h, fun _ => ⟨W.heap.size, 0, rfl, fun k hk => ?_⟩⟩
  rw [Nat.zero_add, World.cell?_alloc_mark]
  simp [hk]
theorem conv_x {w : World} {B : Nat} {ao : Option Addr} {cap : Nat} (h : w.ownsRow B 5 1 (.slice ao 1 cap) 1 [bv 120]) : (convert 42 9 (.slice ao 1 cap)).run Try.prog w = .ok (.string ⟨#[120]⟩) w := by
  rcases h.2 with ⟨hv, hn⟩ | ⟨g, c, cur, hv, _⟩
  · omega
  · simp only [Value.slice.injEq] at hv
    obtain ⟨rfl, _, rfl⟩ := hv
    rw [run_convert_bytes_string w 42 9 5 _ _ cap Try.underlying42 Try.underlying5 Try.underlying9]
    have hl := run_loadCells_list (P := Try.prog) (w := w) ⟨g, 0, none⟩ [bv 120] (h.cells rfl)
    have := run_bytesToString (P := Try.prog) w ⟨g, 0, none⟩ 1 cap [120] (by rw [show (1 : Nat) = [bv 120].length from rfl, hl]; rfl)
    rw [this]; rfl
set_option maxHeartbeats 8000000 in
theorem heads_any (w : World) : Calls Try.prog 10 #[] w fun e w' => e = .returned (.bool true) ∧ Below w.heap.size w w' := by
  have kc := fun (w : World) (C : Array Value) (n c : Nat) => Lib.run_convert_bytes_const (P := Try.prog) w 42 5 C n c Try.underlying42 Try.underlying5
  have HN : Hid _ := new_any w 2 (by decide) (by decide)
  go_enter Try.func10, Try.ntmps10
  go_wp2_with fail
  refine Calls.mono HN.out ?_
  rintro r w1 ⟨b, rfl, bm, h1, hb1, hlb, hlm⟩
  have HB1 : Hid _ := hb1
  have HA1 : Hid _ := add_ok h1 (by simp [newS]) (by simp [newS]) (qz 7) none 0 (brow0 w1)
  clear h1 hb1 HN
  simp only [rcl, qz, newS] at HA1
  go_wp2_with fail
  refine Calls.mono HA1.out ?_
  rintro r w2 ⟨rfl, F2, V2, h2⟩
  have HB2 : Hid (Below w.heap.size w w2) := HB1.out.trans (h2.below HB1.out.size hlb hlm)
  have HA2 : Hid _ := add_ok h2.rt (by decide) (by decide) (qz 8) none 0 (brow0 w2)
  clear h2 HA1 HB1
  simp only [rcl, qz, addS] at HA2
  go_wp2_with fail
  refine Calls.mono HA2.out ?_
  rintro r w3 ⟨rfl, F3, V3, h3⟩
  have HB3 : Hid (Below w.heap.size w w3) := HB2.out.trans (h3.below HB2.out.size hlb hlm)
  have HA3 : Hid _ := add_full h3.rt (by decide) (.int .u16 0) (.int .u16 0) (.int .u64 0) (.int .u64 0) (.int .u64 0) (.slice none 0 0)
  have H3 : Hid _ := h3.rt
  clear h3 HA2 HB2
  go_wp2_with fail
  refine Calls.mono HA3.out ?_
  rintro r w4 ⟨rfl, hb4⟩
  have HB4 : Hid (Below w.heap.size w w4) := HB3.out.trans (hb4.mono HB3.out.size)
  have H4 : Hid _ := H3.out.later hb4
  clear hb4 HA3 HB3 H3
  go_wp2_with fail
  have H4' : Hid (RT (w4.alloc (.cells #[.int .u8 120] 5 (1, 2))) F3 b bm V3 ⟨2, 2, [⟨1, qz 7, false, []⟩, ⟨2, qz 8, false, []⟩]⟩) := RT.later (S := ⟨2, 2, [⟨1, qz 7, false, []⟩, ⟨2, qz 8, false, []⟩]⟩) H4.out (below1 w4 _)
  have HA4 : Hid _ := done_ok H4'.out ⟨2, qz 8, false, []⟩ (by simp) rfl (some ⟨w4.heap.size, 0, none⟩) 1 1 [120] (lit_brow w4 [120] (1, 2) (by simp) (by simp) 1) rfl
  refine Calls.mono HA4.out ?_
  rintro r w5 ⟨rfl, F5, V5, h5⟩
  have hbb4 := HB4.out.trans ((below1 w4 (.cells #[.int .u8 120] 5 (1, 2))).mono HB4.out.size)
  have HB5 : Hid (Below w.heap.size w w5) := hbb4.trans (h5.below hbb4.size hlb hlm)
  have H5 : Hid (RT w5 F5 b bm V5 ⟨2, 2, [⟨1, qz 7, false, []⟩, ⟨2, qz 8, true, [120]⟩]⟩) := h5.rt
  have HA5 : Hid _ := take_pend H5.out ⟨1, qz 7, false, []⟩ (by simp) rfl
  clear h5 hbb4 HA4 H4' H4 HB4
  go_wp2_with fail
  refine Calls.mono HA5.out ?_
  rintro r w6 ⟨rfl, hb6⟩
  have HB6 : Hid (Below w.heap.size w w6) := HB5.out.trans (hb6.mono HB5.out.size)
  have H6 : Hid _ := H5.out.later hb6
  have HA6 : Hid _ := take_ok H6.out ⟨2, qz 8, true, [120]⟩ (by simp) rfl
  clear hb6 HA5 H5 HB5
  go_wp2_with fail
  refine Calls.mono HA6.out ?_
  rintro r w7 ⟨ao, cap, rfl, ho, h7⟩
  have HB7 : Hid (Below w.heap.size w w7) := HB6.out.trans (h7.below HB6.out.size hlb hlm)
  have H7 : Hid (RT w7 F5 b bm V5 ⟨2, 2, [⟨1, qz 7, false, []⟩]⟩) := h7.rt
  have hcv := conv_x ho
  have hl7 := len_any H7.out
  clear h7 ho HA6 H6 HB6
  go_wp2_with (first | (go_at_call 11; refine hl7.mono ?_; rintro r w8 ⟨rfl, hw8⟩; rw [hw8]; clear hw8) | fail)
  go_ret
  exact ⟨rfl, HB7.out⟩
end Go.Proofs.Ytoabigjajnikcaa
